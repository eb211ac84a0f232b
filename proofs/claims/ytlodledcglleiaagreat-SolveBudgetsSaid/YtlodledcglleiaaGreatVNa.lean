/-
  MERGED: VFd VNf VSr.
-/
import Derived.Test.YtlodledcglleiaaGreatVCk
import Derived.Test.YtlodledcglleiaaGreatCOw
namespace Go.Proofs.YtlodledcglleiaaGreat
open Go.RowKit
open SemP DiP FlP GaP SeaP
set_option linter.unusedVariables false
set_option linter.unusedSimpArgs false
set_option maxRecDepth 10000
def unI : ItT Nat := FlI (fun x => [.int .u64 (x : Int)])
theorem un_turns : Turns unI := FlI.turns
def boI : ItT Bool := FlI (fun b => [.bool b])
theorem bo_turns : Turns boI := FlI.turns
def liN : ItT (List Int) := OwI 3 1 inI
theorem liN_turns : Turns liN := OwI.turns in_turns
def liB : ItT (List Bool) := OwI 4 1 boI
theorem liB_turns : Turns liB := OwI.turns bo_turns
def liU : ItT (List Nat) := OwI 74 1 unI
theorem liU_turns : Turns liU := OwI.turns un_turns
def liP : ItT (List (List Nat)) := OwI 148 1 liU
theorem liP_turns : Turns liP := OwI.turns liU_turns
theorem infoU64 : (Tryz.prog.info? 74).map (fun i => (i.zero, i.size, i.bytes)) = some (some (.int .u64 0), 1, 8) := by kernel_rfl
theorem infoU64S : (Tryz.prog.info? 148).map (fun i => (i.zero, i.size, i.bytes)) = some (some (.slice none 0 0), 1, 24) := by kernel_rfl
theorem infoU64SS : (Tryz.prog.info? 147).map (fun i => (i.zero, i.size, i.bytes)) = some (some (.slice none 0 0), 1, 24) := by kernel_rfl
theorem infoIntS : (Tryz.prog.info? 39).map (fun i => (i.zero, i.size, i.bytes)) = some (some (.slice none 0 0), 1, 24) := by kernel_rfl
theorem infoBoolS : (Tryz.prog.info? 146).map (fun i => (i.zero, i.size, i.bytes)) = some (some (.slice none 0 0), 1, 24) := by kernel_rfl
theorem infoBo : (Tryz.prog.info? 4).map (fun i => (i.zero, i.size, i.bytes)) = some (some (.bool false), 1, 1) := by kernel_rfl
def unV (x : Nat) : Value := .int .u64 (x : Int)
def OwnU (w : World) (base : Nat) (v : Value) (n : Nat) (xs : List Nat) : Prop := w.ownsRow base 74 1 v n (xs.map unV)
section
variable {w w' : World} {base n c g : Nat} {v : Value} {xs : List Nat}
theorem OwnU.cell (h : OwnU w base (.slice (some ⟨g, 0, none⟩) n c) n xs) {j : Nat} (hj : j < xs.length) : w.cell? ⟨g, j, none⟩ = some (.int .u64 (xs.getD j 0 : Nat)) := row_cell h (by simp [List.getD, hj, unV])
theorem OwnU.free (h : OwnU w base (.slice (some ⟨g, 0, none⟩) n c) n xs) (j : Nat) : w.frozen? ⟨g, j, none⟩ = false := h.frozenAt j
theorem OwnU.store (h : OwnU w base (.slice (some ⟨g, 0, none⟩) n c) n xs) (j : Nat) (u : Nat) : OwnU (w.setCell ⟨g, j, none⟩ (.int .u64 (u : Int))) base (.slice (some ⟨g, 0, none⟩) n c) n (xs.set j u) := by
  have := (h.stored j (.int .u64 (u : Int))).1
  unfold OwnU; rw [List.map_set]; exact this
theorem OwnU.kept (h : OwnU w base v n xs) (hb : Below w.heap.size w w') : OwnU w' base v n xs := by
  refine ⟨h.1, ?_⟩
  rcases h.2 with h | ⟨g, cap, cur, hv, hbg, hh, r⟩
  · exact .inl h
  · exact .inr ⟨g, cap, cur, hv, hbg, (hb.block g (heapE_lt hh)).trans hh, r⟩
theorem OwnU.ownJ (h : OwnU w base v n xs) (hn : xs.length = n) : OwnJ 74 1 unI w base v xs := by
  subst hn
  refine ⟨_, h, fun j hj => ⟨[unV (xs.getD j default)], rfl, fun i x hx => ?_, rfl⟩⟩
  cases i with
  | zero =>
    rw [Nat.mul_one, Nat.add_zero]
    rw [← hx]
    simp [List.getD, hj]
  | succ i => simp at hx
theorem Own.ownJ {xs : List Int} (h : Own w base v n xs) : OwnJ 3 1 inI w base v xs := by
  have hn := h.len
  subst hn
  refine ⟨_, h, fun j hj => ⟨[.int .i64 (ix xs j)], rfl, fun i x hx => ?_, rfl⟩⟩
  cases i with
  | zero =>
    rw [Nat.mul_one, Nat.add_zero]
    rw [← hx]
    simp [ix, List.getD, hj]
  | succ i => simp at hx
end
theorem wpl_makeU {w : World} {ops : Array Oper} {rest : List Oper} {o : Oper} {a : Act} {Q : Exit → Act → World → Prop} (hgd : o.guard = none) (l c : Operand)
    (ho : o.op = Op.makeSlice 148 l c) (base n : Nat) (hl : a.eval l = .int .i64 (n : Int)) (hc : a.eval c = .int .i64 (n : Int)) (hn : n ≤ 1099511627776) (hbase : base ≤ w.heap.size)
    (h : ∀ w', OwnU w' base (.slice (some ⟨w.heap.size, 0, none⟩) n n) n (List.replicate n 0) → w.grownBy w' none → wpList Tryz.prog ops Q rest (a.put o.dst (.slice (some ⟨w.heap.size, 0, none⟩) n n)) w') :
    wpList Tryz.prog ops Q (o :: rest) a w := by
  obtain ⟨i0, hi, hz0, hz1, hz2⟩ := info_parts infoU64
  refine wpList_make_full w hgd l c 148 ho base 74 i0 (.int .u64 0) 1 Tryz.underlying148 hi hz0 hz1 .i64 .i64 n n n hl hc rfl rfl (by rw [hz2]; omega) (by unfold maxLen; omega) hbase ?_
  intro w' hown hg
  refine h w' ?_ hg
  unfold OwnU
  have e : (madeCells (Value.int .u64 0).cells (n * 1)).toList = (List.replicate n (0 : Nat)).map unV := by
    simp only [madeCells, Value.cells, Array.toList_map, Array.toList_range, Nat.mul_one, List.map_replicate]
    refine List.eq_replicate_iff.2 ⟨by simp, fun b hb => ?_⟩
    obtain ⟨x, _, rfl⟩ := List.mem_map.1 hb
    have : x % 1 = 0 := Nat.mod_one x
    simp [this, unV]
  rw [← e]; exact hown
/-! ### The releases ahead that fit -/
def parM (l : List Sv) (i v j : Nat) : Nat → Nat
  | 0 => 0
  | k + 1 => if fitsC l (i : Int) (v : Int) (j : Int) (k : Int) then add (parM l i v j k) k else parM l i v j k
theorem parM_yes {l : List Sv} {i v j k : Nat} (h : fitsC l (i : Int) (v : Int) (j : Int) (k : Int) = true) : parM l i v j (k + 1) = add (parM l i v j k) k := by
  show (if _ then _ else _) = _
  rw [if_pos h]
theorem parM_no {l : List Sv} {i v j k : Nat} (h : fitsC l (i : Int) (v : Int) (j : Int) (k : Int) = false) : parM l i v j (k + 1) = parM l i v j k := by
  show (if _ then _ else _) = _
  rw [if_neg (by rw [h]; decide)]
theorem parM_small (l : List Sv) (i v j : Nat) : ∀ k, k ≤ 64 → parM l i v j k < lim
  | 0, _ => by rw [lim_eq]; show 0 < _; decide
  | k + 1, h => by
    unfold parM
    split
    · exact add_lt (parM_small l i v j k (by omega)) (by omega)
    · exact parM_small l i v j k (by omega)
theorem bt_parM (l : List Sv) (i v j : Nat) : ∀ k u, bt (parM l i v j k) u = (decide (u < k) && fitsC l (i : Int) (v : Int) (j : Int) (u : Int))
  | 0, u => by simp [parM, bt_zero]
  | k + 1, u => by
    unfold parM
    by_cases h : fitsC l (i : Int) (v : Int) (j : Int) (k : Int) = true
    · rw [if_pos h, bt_add, bt_parM l i v j k u]
      by_cases e : k = u
      · subst e; simp [h]
      · rw [decide_eq_false e, Bool.or_false]
        congr 1
        exact decide_eq_decide.2 ⟨fun h => by omega, fun h => by omega⟩
    · rw [if_neg h, bt_parM l i v j k u]
      by_cases e : u = k
      · subst e
        have : fitsC l (i : Int) (v : Int) (j : Int) (u : Int) = false := by simpa using h
        rw [this, Bool.and_false, Bool.and_false]
      · congr 1
        exact decide_eq_decide.2 ⟨fun h => by omega, fun h => by omega⟩
def parV (l : List Sv) (i v j : Nat) : Nat := parM l i v j (svAt l j).2.length
def unL (n : Nat) (f : Nat → Nat) : List Nat := (List.range n).map f
theorem unL_len (n : Nat) (f : Nat → Nat) : (unL n f).length = n := by simp [unL]
theorem unL_at {n : Nat} (f : Nat → Nat) {i : Nat} (h : i < n) : (unL n f).getD i 0 = f i := by simp [unL, List.getD, h]
theorem unL_set {n : Nat} (f : Nat → Nat) {i : Nat} (x : Nat) (h : i < n) : (unL n f).set i x = unL n (upd f i x) := by
  refine List.ext_getElem (by simp [unL]) fun q h1 h2 => ?_
  simp only [unL, List.getElem_set, List.getElem_map, List.getElem_range, upd]
  by_cases e : i = q
  · rw [if_pos e, if_pos e.symm]
  · rw [if_neg e, if_neg (fun h => e h.symm)]
theorem unL_congr {n : Nat} {f f' : Nat → Nat} (h : ∀ i, i < n → f i = f' i) : unL n f = unL n f' := List.map_congr_left fun i hi => h i (List.mem_range.1 hi)
theorem unL_zero (n : Nat) : List.replicate n 0 = unL n (fun _ => 0) := by
  refine List.ext_getElem (by simp [unL]) fun q h1 h2 => by simp [unL]
def parL (l : List Sv) (i v : Nat) : List Nat := unL i (parV l i v)
set_option maxHeartbeats 8000000 in
theorem partners_any {w : World} {B n c i vv : Nat} {A : Option Addr} {l : List Sv} (h : CatAt w B A n c l) (hs : ∀ s ∈ l, s.2.length ≤ 12) (hi : i < n) :
    Calls Tryz.prog 66 #[.agg #[.slice A n c], .int .i64 (i : Int), .int .i64 (vv : Int)] w fun e w' => ∃ v, e = .returned v ∧ OwnJ 74 1 unI w' w.heap.size v (parL l i vv) ∧ Below w.heap.size w w' := by
  obtain ⟨W, HW⟩ : ∃ W, Hid (W = w.alloc (.cells #[.slice A n c] 24)) := ⟨_, Lib.hid rfl⟩
  have hbl : Below w.heap.size w W := by rw [HW.out]; exact (Below.refl _ w).alloc (Nat.le_refl _) _
  have HBL := Lib.hid hbl
  have HZ : Hid (W.heap.size = w.heap.size + 1) := Lib.hid (by rw [HW.out]; simp)
  have H0 : Hid (W.heap[w.heap.size]? = some (.cells #[.slice A n c] 24 (0, 0))) := Lib.hid (by rw [HW.out]; exact heap_new w _)
  have HA := Lib.hid (h.below hbl)
  have HNL : Hid (l.length = n) := Lib.hid h.rd.1
  have HS := Lib.hid hs
  have hn16 := h.n16
  have hzw : w.heap.size < W.heap.size := by have := HZ.out; omega
  clear h hbl hs
  obtain ⟨x0, _⟩ := row1f H0.out
  go_enter Tryz.func66, Tryz.ntmps66
  go_upto_region 1 with fail
  change Code.wp _ _ _ _ (w.alloc (.cells #[.slice A n c] 24))
  rw [← HW.out]
  go_wp2_with (at_make; refine wpl_makeU rfl (.tmp 10) (.tmp 10) rfl w.heap.size i rfl rfl (by omega) (by omega) ?_; intro w3 hown3 hgr3)
  have HB3 : Hid (Below W.heap.size W w3) := Lib.hid ((Below.refl _ W).grown hgr3 (Nat.le_refl _) (fun g hg => by cases hg))
  rw [unL_zero] at hown3
  have HO3 := Lib.hid hown3
  clear hown3 hgr3 x0
  go_wp2_with fail
  go_loopw [8, 9, 14] (fun _ _ v wr => ∃ (j : Nat) (f : Nat → Nat), j ≤ i ∧ v = .int .i64 (j : Int) ∧ Hid (Below W.heap.size W wr) ∧ Hid (OwnU wr w.heap.size (.slice (some ⟨W.heap.size, 0, none⟩) i i) i (unL i f)) ∧ Hid ((∀ q, q < j → f q = parV l i vv q) ∧ ∀ q, j ≤ q → f q = 0)) (fun _ _ v _ => i - (intOf v).toNat)
  case atStart => exact ⟨0, fun _ => 0, Nat.zero_le _, rfl, HB3, HO3, Lib.hid ⟨fun q h => absurd h (by omega), fun q _ => rfl⟩⟩
  case round =>
    obtain ⟨wo, hwo⟩ : ∃ x, x = wr := ⟨_, rfl⟩
    subst hwo
    obtain ⟨j, f, hj, rfl, HBo, HO, HF⟩ := hrel
    by_cases hjn : j < i
    · have hd2 : decide ((j : Int) < (i : Int)) = true := by simp; omega
      have hji : (j : Int) < (i : Int) := by omega
      have hj0 : (0 : Int) ≤ (j : Int) := by omega
      have hjn2 : (j : Int) < (n : Int) := by omega
      have hadd2 : IntKind.i64.wrap ((j : Int) + 1) = ((j + 1 : Nat) : Int) := by rw [IntWalk.i64_in _ (by omega)]; omega
      have HAo := Lib.hid (HA.out.below HBo.out)
      have HJL : Hid (j < l.length) := Lib.hid (by rw [HNL.out]; omega)
      have Ko : Hid (wo.heap[w.heap.size]? = _) := Lib.hid ((HBo.out.block w.heap.size (heapE_lt H0.out)).trans H0.out)
      obtain ⟨b1, o1, Aj, nj, cj, rfl, hb1, _, k1, _, hrj⟩ := sv_at HAo.out.rd (i := j) (by omega)
      have HNJ : Hid ((svAt l j).2.length = nj) := Lib.hid hrj.1
      have hnj : nj ≤ 12 := by have := HS.out _ (svAt_mem HJL.out); have := HNJ.out; omega
      obtain ⟨x0, _⟩ := row1f Ko.out
      clear hrj
      go_wp2_with fail
      clear x0 k1
      go_loopw [9, 24] (fun _ v wr => ∃ (k : Nat) (f : Nat → Nat), k ≤ nj ∧ v = .int .i64 (k : Int) ∧ Hid (Below W.heap.size W wr) ∧ Hid (OwnU wr w.heap.size (.slice (some ⟨W.heap.size, 0, none⟩) i i) i (unL i f)) ∧ Hid ((∀ q, q < j → f q = parV l i vv q) ∧ f j = parM l i vv j k ∧ ∀ q, j < q → f q = 0)) (fun _ v _ => nj - (intOf v).toNat)
      case atStart => exact ⟨0, f, Nat.zero_le _, rfl, HBo, HO, Lib.hid ⟨HF.out.1, HF.out.2 j (Nat.le_refl _), fun q hq => HF.out.2 q (by omega)⟩⟩
      case round =>
        obtain ⟨wi, hwi⟩ : ∃ x, x = wr := ⟨_, rfl⟩
        subst hwi
        obtain ⟨k, f2, hk, rfl, HBi, HOi, HFi⟩ := hrel
        by_cases hkn : k < nj
        · have hd3 : decide ((k : Int) < (nj : Int)) = true := by simp; omega
          have hki : (k : Int) < (nj : Int) := by omega
          have hk0 : (0 : Int) ≤ (k : Int) := by omega
          have hadd3 : IntKind.i64.wrap ((k : Int) + 1) = ((k + 1 : Nat) : Int) := by rw [IntWalk.i64_in _ (by omega)]; omega
          have HAi := Lib.hid (HA.out.below HBi.out)
          have Ki : Hid (wi.heap[w.heap.size]? = _) := Lib.hid ((HBi.out.block w.heap.size (heapE_lt H0.out)).trans H0.out)
          have HFT := Lib.hid (fits_any (i := (i : Int)) (v := (vv : Int)) (j := (j : Int)) (x := (k : Int)) HAi.out)
          obtain ⟨x0, _⟩ := row1f Ki.out
          go_wp2_with fail
          refine HFT.out.mono ?_
          rintro e w4 ⟨rfl, hb⟩
          have HB4 : Hid (Below W.heap.size W w4) := Lib.hid (HBi.out.trans (hb.mono HBi.out.size))
          have HO4 := Lib.hid (HOi.out.kept hb)
          clear hb x0 HFT
          cases hq : fitsC l (i : Int) (vv : Int) (j : Int) (k : Int) with
          | false =>
            have HF4 : Hid ((∀ q, q < j → f2 q = parV l i vv q) ∧ f2 j = parM l i vv j (k + 1) ∧ ∀ q, j < q → f2 q = 0) := Lib.hid ⟨HFi.out.1, by rw [HFi.out.2.1, parM_no hq], HFi.out.2.2⟩
            clear hq
            go_wp2_with fail
            go_roundw
            case rel => exact ⟨k + 1, f2, by omega, by go_num, HB4, HO4, HF4⟩
            case measure => simp [intOf]; omega
          | true =>
            have HPJ : Hid (f2 j = parM l i vv j k) := Lib.hid HFi.out.2.1
            have hsm := parM_small l i vv j k (by omega)
            obtain ⟨pm, HPM⟩ : ∃ pm, Hid (parM l i vv j k = pm) := ⟨_, Lib.hid rfl⟩
            rw [HPM.out] at hsm
            have HO := Lib.hid (or_spell hsm (show k < 64 by omega))
            have HO2 := Lib.hid (or_spell2 hsm (show k < 64 by omega))
            have hc := HO4.out.cell (j := j) (by rw [unL_len]; exact hjn)
            rw [unL_at f2 hjn, HPJ.out, HPM.out] at hc
            have hfz := HO4.out.free j
            have HF4 : Hid ((∀ q, q < j → upd f2 j (add pm k) q = parV l i vv q) ∧ upd f2 j (add pm k) j = parM l i vv j (k + 1) ∧ ∀ q, j < q → upd f2 j (add pm k) q = 0) := Lib.hid ⟨fun q hq => by rw [upd_other _ _ (by omega)]; exact HFi.out.1 q hq, by
              rw [upd_same, parM_yes hq, HPM.out], fun q hq => by rw [upd_other _ _ (by omega)]; exact HFi.out.2.2 q hq⟩
            have HO5 := Lib.hid (HO4.out.store j (add pm k))
            rw [unL_set f2 _ hjn] at HO5
            clear hq hsm
            go_wp2_with fail
            go_roundw
            case rel => exact ⟨k + 1, upd f2 j (add pm k), by omega, by go_num, Lib.hid (by first | (rw [HO.out]; exact HB4.out.setCell (p := ⟨W.heap.size, j, none⟩) (Nat.le_refl _) _) | (rw [HO2.out]; exact HB4.out.setCell (p := ⟨W.heap.size, j, none⟩) (Nat.le_refl _) _) | exact HB4.out.setCell (p := ⟨W.heap.size, j, none⟩) (Nat.le_refl _) _), Lib.hid (by first | (rw [HO.out]; exact HO5.out) | (rw [HO2.out]; exact HO5.out) | exact HO5.out), HF4⟩
            case measure => simp [intOf]; omega
        · have hd3 : decide ((k : Int) < (nj : Int)) = false := by simp; omega
          obtain rfl : k = nj := by omega
          have HF4 : Hid ((∀ q, q < j + 1 → f2 q = parV l i vv q) ∧ ∀ q, j + 1 ≤ q → f2 q = 0) := Lib.hid ⟨fun q hq => by
            by_cases e : q = j
            · subst e; rw [HFi.out.2.1]; unfold parV; rw [HNJ.out]
            · exact HFi.out.1 q (by omega), fun q hq => HFi.out.2.2 q (by omega)⟩
          go_wp2_with fail
          go_roundw
          case rel => exact ⟨j + 1, f2, by omega, by go_num, HBi, HOi, HF4⟩
          case measure => simp [intOf]; omega
    · have hd2 : decide ((j : Int) < (i : Int)) = false := by simp; omega
      obtain rfl : j = i := by omega
      go_wp2_with fail
      go_ret
      have he : unL j f = parL l j vv := unL_congr (fun q hq => HF.out.1 q hq)
      exact ⟨_, rfl, by have := HO.out.ownJ (unL_len _ _); rw [he] at this; exact this, HBL.out.trans (HBo.out.mono HBL.out.size)⟩
/-! ### The field -/
def alwV (l : List Sv) (ps : List Nd) (i : Nat) : List Bool := (List.range (svAt l i).2.length).map (pinR l ps i)
def alwK (l : List Sv) (ps : List Nd) (k : Nat) : List (List Bool) := (List.range k).map (alwV l ps)
def ptsV (l : List Sv) (i : Nat) : List (List Nat) := (List.range (svAt l i).2.length).map (parL l i)
def ptsK (l : List Sv) (k : Nat) : List (List (List Nat)) := (List.range k).map (ptsV l)
theorem rng_succ {α : Type} (f : Nat → α) (k : Nat) : (List.range (k + 1)).map f = (List.range k).map f ++ [f k] := by rw [List.range_succ, List.map_append]; rfl
theorem rng_len {α : Type} (f : Nat → α) (k : Nat) : ((List.range k).map f).length = k := by simp
theorem rng_at {α : Type} [Inhabited α] (f : Nat → α) {k i : Nat} (h : i < k) : ((List.range k).map f).getD i default = f i := by simp [List.getD, h]
theorem row3 {w : World} {g : Nat} {x y z : Value} {t : TypeId} (h : w.heap[g]? = some (.cells #[x, y, z] t (0, 0))) : w.cell? ⟨g, 0, none⟩ = some x ∧ w.cell? ⟨g, 1, none⟩ = some y ∧ w.cell? ⟨g, 2, none⟩ = some z ∧ w.frozen? ⟨g, 0, none⟩ = false ∧ w.frozen? ⟨g, 1, none⟩ = false ∧ w.frozen? ⟨g, 2, none⟩ = false :=
  ⟨by rw [cell_of_row w g 0 _ _ _ h]; rfl, by rw [cell_of_row w g 1 _ _ _ h]; rfl, by rw [cell_of_row w g 2 _ _ _ h]; rfl, frozen_of_row w g 0 _ _ h, frozen_of_row w g 1 _ _ h, frozen_of_row w g 2 _ _ h⟩
/-- The field as it grows: its box, and its three rows. -/
structure Fl3 (w0 w1 w : World) (fb base : Nat) (A1 A2 A3 : Option Addr) (n1 n2 n3 c1 c2 c3 : Nat) (x1 : List (List Int)) (x2 : List (List Bool)) (x3 : List (List (List Nat))) : Prop where
  bel : Below w0.heap.size w0 w
  low : Below fb w1 w
  hb : w0.heap.size ≤ fb
  hf : fb ≤ base
  box : w.heap[fb]? = some (.cells #[.slice A1 n1 c1, .slice A2 n2 c2, .slice A3 n3 c3] 113 (0, 0))
  o1 : OwnJ 39 1 liN w base (.slice A1 n1 c1) x1
  o2 : OwnJ 146 1 liB w base (.slice A2 n2 c2) x2
  o3 : OwnJ 147 1 liP w base (.slice A3 n3 c3) x3
section
variable {w0 w1 w w5 : World} {fb base : Nat} {A1 A2 A3 A' : Option Addr} {n1 n2 n3 c1 c2 c3 n' c' : Nat} {x1 y1 : List (List Int)} {x2 y2 : List (List Bool)} {x3 y3 : List (List (List Nat))}
theorem Fl3.kept (h : Fl3 w0 w1 w fb base A1 A2 A3 n1 n2 n3 c1 c2 c3 x1 x2 x3) (hb : Below w.heap.size w w5) : Fl3 w0 w1 w5 fb base A1 A2 A3 n1 n2 n3 c1 c2 c3 x1 x2 x3 :=
  ⟨h.bel.trans (hb.mono h.bel.size), h.low.trans (hb.mono (Nat.le_of_lt (heapE_lt h.box))), h.hb, h.hf, (hb.block fb (heapE_lt h.box)).trans h.box, h.o1.kept liN_turns hb, h.o2.kept liB_turns hb, h.o3.kept liP_turns hb⟩
theorem Fl3.mid1 (h : Fl3 w0 w1 w fb base A1 A2 A3 n1 n2 n3 c1 c2 c3 x1 x2 x3) (hg : w.grownBy w5 (Value.slice A1 n1 c1).ownBlock) (ho : OwnJ 39 1 liN w5 base (.slice A' n' c') y1) :
    w5.heap[fb]? = some (.cells #[.slice A1 n1 c1, .slice A2 n2 c2, .slice A3 n3 c3] 113 (0, 0)) ∧ Fl3 w0 w1 (w5.setCell ⟨fb, 0, none⟩ (.slice A' n' c')) fb base A' A2 A3 n' n2 n3 c' c2 c3 y1 x2 x3 ∧ Off 39 w w5 ∧ Off 113 w5 (w5.setCell ⟨fb, 0, none⟩ (.slice A' n' c')) := by
  have hoff : Off 39 w w5 := Off.of_grown hg h.o1.bears
  have hbox : w5.heap[fb]? = some (.cells #[.slice A1 n1 c1, .slice A2 n2 c2, .slice A3 n3 c3] 113 (0, 0)) := (hoff.block fb _ _ h.box (by decide)).trans h.box
  have hof2 : Off 113 w5 (w5.setCell ⟨fb, 0, none⟩ (.slice A' n' c')) := Off.of_set hbox
  refine ⟨hbox, ⟨(h.bel.grown hg h.bel.size (fun g e => Nat.le_trans h.hb (Nat.le_trans h.hf (h.o1.ge g e).1))).setCell (p := ⟨fb, 0, none⟩) h.hb _, (h.low.grown hg (Nat.le_of_lt (heapE_lt h.box)) (fun g e => Nat.le_trans h.hf (h.o1.ge g e).1)).setCell (p := ⟨fb, 0, none⟩) (Nat.le_refl _) _, h.hb, h.hf, heap_setCell_same w5 fb 0 _ _ _ hbox, ?_, ?_, ?_⟩, hoff, hof2⟩
  · exact ho.off (by decide) (OwI.typ (by decide) FlI.typ) hof2
  · exact (h.o2.off (by decide) (OwI.typ (by decide) FlI.typ) hoff).off (by decide) (OwI.typ (by decide) FlI.typ) hof2
  · exact (h.o3.off (by decide) (OwI.typ (by decide) (OwI.typ (by decide) FlI.typ)) hoff).off (by decide) (OwI.typ (by decide) (OwI.typ (by decide) FlI.typ)) hof2
theorem Fl3.mid2 (h : Fl3 w0 w1 w fb base A1 A2 A3 n1 n2 n3 c1 c2 c3 x1 x2 x3) (hg : w.grownBy w5 (Value.slice A2 n2 c2).ownBlock) (ho : OwnJ 146 1 liB w5 base (.slice A' n' c') y2) :
    w5.heap[fb]? = some (.cells #[.slice A1 n1 c1, .slice A2 n2 c2, .slice A3 n3 c3] 113 (0, 0)) ∧ Fl3 w0 w1 (w5.setCell ⟨fb, 1, none⟩ (.slice A' n' c')) fb base A1 A' A3 n1 n' n3 c1 c' c3 x1 y2 x3 ∧ Off 146 w w5 ∧ Off 113 w5 (w5.setCell ⟨fb, 1, none⟩ (.slice A' n' c')) := by
  have hoff : Off 146 w w5 := Off.of_grown hg h.o2.bears
  have hbox : w5.heap[fb]? = some (.cells #[.slice A1 n1 c1, .slice A2 n2 c2, .slice A3 n3 c3] 113 (0, 0)) := (hoff.block fb _ _ h.box (by decide)).trans h.box
  have hof2 : Off 113 w5 (w5.setCell ⟨fb, 1, none⟩ (.slice A' n' c')) := Off.of_set hbox
  refine ⟨hbox, ⟨(h.bel.grown hg h.bel.size (fun g e => Nat.le_trans h.hb (Nat.le_trans h.hf (h.o2.ge g e).1))).setCell (p := ⟨fb, 1, none⟩) h.hb _, (h.low.grown hg (Nat.le_of_lt (heapE_lt h.box)) (fun g e => Nat.le_trans h.hf (h.o2.ge g e).1)).setCell (p := ⟨fb, 1, none⟩) (Nat.le_refl _) _, h.hb, h.hf, heap_setCell_same w5 fb 1 _ _ _ hbox, ?_, ?_, ?_⟩, hoff, hof2⟩
  · exact (h.o1.off (by decide) (OwI.typ (by decide) FlI.typ) hoff).off (by decide) (OwI.typ (by decide) FlI.typ) hof2
  · exact ho.off (by decide) (OwI.typ (by decide) FlI.typ) hof2
  · exact (h.o3.off (by decide) (OwI.typ (by decide) (OwI.typ (by decide) FlI.typ)) hoff).off (by decide) (OwI.typ (by decide) (OwI.typ (by decide) FlI.typ)) hof2
theorem Fl3.mid3 (h : Fl3 w0 w1 w fb base A1 A2 A3 n1 n2 n3 c1 c2 c3 x1 x2 x3) (hg : w.grownBy w5 (Value.slice A3 n3 c3).ownBlock) (ho : OwnJ 147 1 liP w5 base (.slice A' n' c') y3) :
    w5.heap[fb]? = some (.cells #[.slice A1 n1 c1, .slice A2 n2 c2, .slice A3 n3 c3] 113 (0, 0)) ∧ Fl3 w0 w1 (w5.setCell ⟨fb, 2, none⟩ (.slice A' n' c')) fb base A1 A2 A' n1 n2 n' c1 c2 c' x1 x2 y3 ∧ Off 147 w w5 ∧ Off 113 w5 (w5.setCell ⟨fb, 2, none⟩ (.slice A' n' c')) := by
  have hoff : Off 147 w w5 := Off.of_grown hg h.o3.bears
  have hbox : w5.heap[fb]? = some (.cells #[.slice A1 n1 c1, .slice A2 n2 c2, .slice A3 n3 c3] 113 (0, 0)) := (hoff.block fb _ _ h.box (by decide)).trans h.box
  have hof2 : Off 113 w5 (w5.setCell ⟨fb, 2, none⟩ (.slice A' n' c')) := Off.of_set hbox
  refine ⟨hbox, ⟨(h.bel.grown hg h.bel.size (fun g e => Nat.le_trans h.hb (Nat.le_trans h.hf (h.o3.ge g e).1))).setCell (p := ⟨fb, 2, none⟩) h.hb _, (h.low.grown hg (Nat.le_of_lt (heapE_lt h.box)) (fun g e => Nat.le_trans h.hf (h.o3.ge g e).1)).setCell (p := ⟨fb, 2, none⟩) (Nat.le_refl _) _, h.hb, h.hf, heap_setCell_same w5 fb 2 _ _ _ hbox, ?_, ?_, ?_⟩, hoff, hof2⟩
  · exact (h.o1.off (by decide) (OwI.typ (by decide) FlI.typ) hoff).off (by decide) (OwI.typ (by decide) FlI.typ) hof2
  · exact (h.o2.off (by decide) (OwI.typ (by decide) FlI.typ) hoff).off (by decide) (OwI.typ (by decide) FlI.typ) hof2
  · exact ho.off (by decide) (OwI.typ (by decide) (OwI.typ (by decide) FlI.typ)) hof2
end
/-- The field, read. -/
structure FldRd (w : World) (B : Nat) (A1 A2 A3 : Option Addr) (n : Nat) (x1 : List (List Int)) (x2 : List (List Bool)) (x3 : List (List (List Nat))) : Prop where
  r1 : RdJ 1 (SlI 1 inI) w (fun b => B ≤ b) A1 n x1
  r2 : RdJ 1 (SlI 1 boI) w (fun b => B ≤ b) A2 n x2
  r3 : RdJ 1 (SlI 1 (SlI 1 unI)) w (fun b => B ≤ b) A3 n x3
  le : B ≤ w.heap.size
theorem FldRd.below {w w' : World} {B n : Nat} {A1 A2 A3 : Option Addr} {x1 : List (List Int)} {x2 : List (List Bool)} {x3 : List (List (List Nat))} (h : FldRd w B A1 A2 A3 n x1 x2 x3) (hb : Below B w w') : FldRd w' B A1 A2 A3 n x1 x2 x3 :=
  ⟨RdJ.below (SlI.turns in_turns) h.r1 hb, RdJ.below (SlI.turns bo_turns) h.r2 hb, RdJ.below (SlI.turns (SlI.turns un_turns)) h.r3 hb, Nat.le_trans h.le hb.size⟩
theorem OwnJ.map {α : Type} [Inhabited α] {E : TypeId} {z : Nat} {I I0 : ItT α} {w : World} {base : Nat} {v : Value} {l : List α} (hI : ∀ {us x}, I w (Ap base v) us x → I0 w (Ap base v) us x) (h : OwnJ E z I w base v l) : OwnJ E z I0 w base v l := by
  obtain ⟨vals, ho, hj⟩ := h
  exact ⟨vals, ho, fun j hl => by
    obtain ⟨us, h1, h2, h3⟩ := hj j hl
    exact ⟨us, h1, h2, hI h3⟩⟩
theorem Fl3.rd {w0 w1 w : World} {fb base n c1 c2 c3 : Nat} {A1 A2 A3 : Option Addr} {x1 : List (List Int)} {x2 : List (List Bool)} {x3 : List (List (List Nat))} (h : Fl3 w0 w1 w fb base A1 A2 A3 n n n c1 c2 c3 x1 x2 x3) : FldRd w w.heap.size A1 A2 A3 n x1 x2 x3 :=
  ⟨(h.o1.map (fun h => OwI.sl (fun h => h) h)).rd (SlI.turns in_turns) (fun b hb => .inr hb), (h.o2.map (fun h => OwI.sl (fun h => h) h)).rd (SlI.turns bo_turns) (fun b hb => .inr hb), (h.o3.map (fun h => OwI.sl (fun h => OwI.sl (fun h => h) h) h)).rd (SlI.turns (SlI.turns un_turns)) (fun b hb => .inr hb), Nat.le_refl _⟩
end Go.Proofs.YtlodledcglleiaaGreat

namespace Go.Proofs.YtlodledcglleiaaGreat
open Go.RowKit
open SemP DiP FlP GaP SeaP
set_option linter.unusedVariables false
set_option linter.unusedSimpArgs false
set_option maxRecDepth 10000
theorem alloc4b (w : World) (o0 o1 o2 o3 : Obj) : ((((w.alloc o0).alloc o1).alloc o2).alloc o3).heap[w.heap.size]? = some o0 ∧ ((((w.alloc o0).alloc o1).alloc o2).alloc o3).heap[w.heap.size + 1]? = some o1 ∧ ((((w.alloc o0).alloc o1).alloc o2).alloc o3).heap[w.heap.size + 1 + 1]? = some o2 ∧ ((((w.alloc o0).alloc o1).alloc o2).alloc o3).heap[w.heap.size + 1 + 1 + 1]? = some o3 ∧ Below w.heap.size w ((((w.alloc o0).alloc o1).alloc o2).alloc o3) ∧ ((((w.alloc o0).alloc o1).alloc o2).alloc o3).heap.size = w.heap.size + 4 := by
  have s1 : (w.alloc o0).heap.size = w.heap.size + 1 := World.size_alloc _ _
  have s2 : ((w.alloc o0).alloc o1).heap.size = w.heap.size + 1 + 1 := by rw [World.size_alloc, s1]
  have s3 : (((w.alloc o0).alloc o1).alloc o2).heap.size = w.heap.size + 1 + 1 + 1 := by rw [World.size_alloc, s2]
  refine ⟨?_, ?_, ?_, ?_, ?_, by rw [World.size_alloc, s3]⟩
  · rw [Below.heap_alloc _ _ _ (by omega), Below.heap_alloc _ _ _ (by omega), Below.heap_alloc _ _ _ (by omega)]; exact heap_new w _
  · rw [Below.heap_alloc _ _ _ (by omega), Below.heap_alloc _ _ _ (by omega)]
    have := heap_new (w.alloc o0) o1; rw [s1] at this; exact this
  · rw [Below.heap_alloc _ _ _ (by omega)]
    have := heap_new ((w.alloc o0).alloc o1) o2; rw [s2] at this; exact this
  · have := heap_new (((w.alloc o0).alloc o1).alloc o2) o3; rw [s3] at this; exact this
  · exact ((((Below.refl _ w).alloc (Nat.le_refl _) _).alloc (by omega) _).alloc (by omega) _).alloc (by omega) _
theorem alwK_len (l : List Sv) (ps : List Nd) (k : Nat) : (alwK l ps k).length = k := rng_len _ _
theorem ptsK_len (l : List Sv) (k : Nat) : (ptsK l k).length = k := rng_len _ _
theorem grown_set3 (w : World) (g : Nat) (a b c : Value) : w.grownBy (((w.setCell ⟨g, 0, none⟩ a).setCell ⟨g, 1, none⟩ b).setCell ⟨g, 2, none⟩ c) (some g) :=
  grown_add (grown_add (grown_set w g 0 a) (grown_set _ g 1 b)) (grown_set _ g 2 c)
set_option maxHeartbeats 16000000 in
theorem newField_any {w : World} {B B2 B3 n c c2 np cp cm : Nat} {A A2 Aq Am : Option Addr} {l : List Sv} {vs : List Int} {ps : List Nd} {ms : List Int} (h : CatAt w B A n c l) (hs : ∀ s ∈ l, s.2.length ≤ 12) (hv : Rd w B2 A2 n vs) (hB2 : B2 ≤ w.heap.size) (hq : ReqAt w B3 Aq np Am n ps ms) (hset : setB l vs = true) (hmod : modB ms = true) :
    Calls Tryz.prog 38 #[.agg #[.slice A n c], .slice A2 n c2, .agg #[.slice Aq np cp, .slice Am n cm]] w fun e w' => ∃ A1 A2 A3 c1 c2 c3, e = .returned (.tuple #[.agg #[.slice A1 n c1, .slice A2 n c2, .slice A3 n c3], .int .i64 0]) ∧ FldRd w' w'.heap.size A1 A2 A3 n (ordsK l ms vs n) (alwK l ps n) (ptsK l n) ∧ Below w.heap.size w w' := by
  obtain ⟨W, HW⟩ : ∃ W, Hid (W = (((w.alloc (.cells #[.slice A n c] 24)).alloc (.cells #[.slice Aq np cp, .slice Am n cm] 46)).alloc (.cells #[.slice none 0 0, .slice none 0 0, .slice none 0 0] 113)).alloc (.cells #[.slice none 0 0, .slice none 0 0, .slice none 0 0] 113)) := ⟨_, Lib.hid rfl⟩
  obtain ⟨h0, h1, h2, h3, hbl, hz⟩ := alloc4b w (.cells #[.slice A n c] 24) (.cells #[.slice Aq np cp, .slice Am n cm] 46) (.cells #[.slice none 0 0, .slice none 0 0, .slice none 0 0] 113) (.cells #[.slice none 0 0, .slice none 0 0, .slice none 0 0] 113)
  rw [← HW.out] at h0 h1 h2 h3 hbl hz
  have HBL := Lib.hid hbl
  have HZ := Lib.hid hz
  have H0 := Lib.hid h0
  have H1 := Lib.hid h1
  have H2 := Lib.hid h2
  have HA := Lib.hid h
  have HQ := Lib.hid hq
  have HVS := Lib.hid hv
  have HNL : Hid (l.length = n) := Lib.hid h.rd.1
  have HVL : Hid (vs.length = n) := Lib.hid hv.len
  have HML : Hid (ms.length = n) := Lib.hid hq.md.len
  have HS := Lib.hid hs
  have HSET := Lib.hid (setB_iff.1 hset)
  have HMOD : Hid (∀ i, i < n → 0 ≤ ix ms i ∧ ix ms i ≤ 3) := Lib.hid (fun i hi => modB_at hmod (by rw [hq.md.len]; exact hi))
  have hn16 := h.n16
  have HSM := Lib.hid h.sm
  have HF0 : Hid (Fl3 w W W (w.heap.size + 1 + 1 + 1) (w.heap.size + 1 + 1 + 1 + 1) none none none 0 0 0 0 0 0 [] [] []) := Lib.hid ⟨hbl, Below.refl _ _, by omega, by omega, h3, OwnJ.nil_ _ _ _ _ _, OwnJ.nil_ _ _ _ _ _, OwnJ.nil_ _ _ _ _ _⟩
  obtain ⟨x0, _⟩ := row1f h0
  clear h hs hv hq hset hmod h0 h1 h2 h3 hbl hz
  go_enter Tryz.func38, Tryz.ntmps38
  go_upto_region 2 with fail
  change Code.wp _ _ _ _ ((((w.alloc (.cells #[.slice A n c] 24)).alloc (.cells #[.slice Aq np cp, .slice Am n cm] 46)).alloc (.cells #[.slice none 0 0, .slice none 0 0, .slice none 0 0] 113)).alloc (.cells #[.slice none 0 0, .slice none 0 0, .slice none 0 0] 113))
  rw [← HW.out]
  go_wp2_with fail
  clear x0
  go_loopw [9, 10, 11, 12, 13, 14, 15, 19] (fun _ _ _ _ _ _ _ v wr => ∃ (k c1 c2 c3 : Nat) (A1 A2 A3 : Option Addr), k ≤ n ∧ v = .int .i64 (k : Int) ∧ Hid (Fl3 w W wr (w.heap.size + 1 + 1 + 1) (w.heap.size + 1 + 1 + 1 + 1) A1 A2 A3 k k k c1 c2 c3 (ordsK l ms vs k) (alwK l ps k) (ptsK l k))) (fun _ _ _ _ _ _ _ v _ => n - (intOf v).toNat)
  case atStart => exact ⟨0, 0, 0, 0, none, none, none, Nat.zero_le _, rfl, HF0⟩
  case round =>
    obtain ⟨wo, hwo⟩ : ∃ x, x = wr := ⟨_, rfl⟩
    subst hwo
    obtain ⟨k, c1, c2', c3, A1, A2', A3, hk, rfl, HF⟩ := hrel
    have HBo := Lib.hid HF.out.bel
    have hzo : W.heap.size ≤ wo.heap.size := HF.out.low.size
    have hzw : W.heap.size = w.heap.size + 1 + 1 + 1 + 1 := HZ.out
    have Ko0 : Hid (wo.heap[w.heap.size]? = _) := Lib.hid ((HF.out.low.block w.heap.size (by omega)).trans H0.out)
    have Ko1 : Hid (wo.heap[w.heap.size + 1]? = _) := Lib.hid ((HF.out.low.block (w.heap.size + 1) (by omega)).trans H1.out)
    have Ko2 : Hid (wo.heap[w.heap.size + 1 + 1]? = _) := Lib.hid ((HF.out.low.block (w.heap.size + 1 + 1) (by omega)).trans H2.out)
    have hzo' : w.heap.size + 4 ≤ wo.heap.size := by omega
    clear hzw
    by_cases hkn : k < n
    · have hd2 : decide ((k : Int) < (n : Int)) = true := by simp; omega
      have hki : (k : Int) < (n : Int) := by omega
      have hk0 : (0 : Int) ≤ (k : Int) := by omega
      have hadd2 : IntKind.i64.wrap ((k : Int) + 1) = ((k + 1 : Nat) : Int) := by rw [IntWalk.i64_in _ (by omega)]; omega
      have HKL : Hid (k < l.length) := Lib.hid (by rw [HNL.out]; exact hkn)
      obtain ⟨mo, HMO⟩ : ∃ mo : Nat, Hid (ix ms k = (mo : Int) ∧ mo < 4) := ⟨(ix ms k).toNat, Lib.hid (by have := HMOD.out k hkn; omega)⟩
      obtain ⟨a0, cu, ha0, hcu, _, hcul⟩ := isR_nat (HSET.out.2 k (by rw [HVL.out]; exact hkn))
      obtain rfl : a0 = k := by omega
      have HCU : Hid (ix vs a0 = (cu : Int) ∧ cu < (svAt l a0).2.length) := Lib.hid ⟨hcu, hcul⟩
      have HAo := Lib.hid (HA.out.below HBo.out)
      have HQo := Lib.hid (HQ.out.below HBo.out)
      obtain ⟨b1, o1, Aj, nj, cj, hAA, hb1, k0, k1, _, hrj⟩ := sv_at HAo.out.rd (i := a0) hkn
      subst hAA
      have HNJ : Hid ((svAt l a0).2.length = nj) := Lib.hid hrj.1
      have hnj : nj ≤ 12 := by have := HS.out _ (svAt_mem HKL.out); have := HNJ.out; omega
      have hnj0 : 0 < nj := by have := HCU.out.2; have := HNJ.out; omega
      obtain ⟨bm, om, hAm, hbm, km⟩ := HQo.out.md.at_ hkn
      subst hAm
      obtain ⟨bv, ov, hAv, hbv, kv⟩ := (HVS.out.below (HBo.out.mono hB2)).at_ hkn
      subst hAv
      rw [HMO.out.1] at km
      rw [HCU.out.1] at kv
      obtain ⟨nm, HNM⟩ : ∃ nm, Hid ((svAt l a0).1 = nm) := ⟨_, Lib.hid rfl⟩
      rw [HNM.out] at k0
      obtain ⟨X, HX⟩ : ∃ X, Hid (X = wo.alloc (.cells #[.string nm, .slice Aj nj cj] 94)) := ⟨_, Lib.hid rfl⟩
      have hbX : Below wo.heap.size wo X := by rw [HX.out]; exact (Below.refl _ wo).alloc (Nat.le_refl _) _
      have HBX := Lib.hid hbX
      have HX0 : Hid (X.heap[wo.heap.size]? = some (.cells #[.string nm, .slice Aj nj cj] 94 (0, 0))) := Lib.hid (by rw [HX.out]; exact heap_new wo _)
      have hbvw : bv < X.heap.size := by have := hbX.size; omega
      have hbmw : bm < X.heap.size := by have := hbX.size; have := HQo.out.le; omega
      have kmX := (hbX.cell (p := ⟨bm, om + a0, none⟩) (by show bm < wo.heap.size; have := HQo.out.le; omega)).trans km
      have kvX := (hbX.cell (p := ⟨bv, ov + a0, none⟩) (by show bv < wo.heap.size; omega)).trans kv
      have KX1 : Hid (X.heap[w.heap.size + 1]? = _) := Lib.hid ((hbX.block (w.heap.size + 1) (heapE_lt Ko1.out)).trans Ko1.out)
      obtain ⟨x0, _⟩ := row1f Ko0.out
      clear hrj hbX km kv ha0 hcu hcul
      go_upto_region 5 with fail
      change Code.wp _ _ _ _ (wo.alloc (.cells #[.string nm, .slice Aj nj cj] 94))
      rw [← HX.out]
      clear k0 k1 x0
      obtain ⟨y0, y1, _⟩ := row2 HX0.out
      obtain ⟨u0, u1, _⟩ := row2 KX1.out
      have HI := Lib.hid (order_yes (X.drewN 1) mo nj cu HMO.out.2 hnj0 hnj (by rw [← HNJ.out]; exact HCU.out.2))
      clear y0 u0
      go_wp2_with fail
      go_region_held3 (fun W' => W'.cell? ⟨w.heap.size + 1, 1, none⟩ = some (.slice (some ⟨bm, om, none⟩) n cm) ∧ W'.cell? ⟨bm, om + a0, none⟩ = some (.int .i64 (mo : Int)) ∧ W'.cell? ⟨wo.heap.size, 1, none⟩ = some (.slice Aj nj cj) ∧ W'.cell? ⟨bv, ov + a0, none⟩ = some (.int .i64 (cu : Int))) ((first | exact ⟨u1, kmX, y1, kvX⟩ | exact ⟨z0, z1, z2, z3⟩ | go_keep)) (first
          | (go_at_call 64; refine HI.out.mono ?_; rintro e w1 ⟨vO, rfl, hown, hb'⟩; (have hb : Below X.heap.size X w1 := (Below.drewN' (Below.refl _ X) 1).trans hb'); (have z0 := (hb.cell (p := ⟨w.heap.size + 1, 1, none⟩) (heapE_lt KX1.out)).trans u1); (have z1 := (hb.cell (p := ⟨bm, om + a0, none⟩) hbmw).trans kmX); (have z2 := (hb.cell (p := ⟨wo.heap.size, 1, none⟩) (heapE_lt HX0.out)).trans y1); (have z3 := (hb.cell (p := ⟨bv, ov + a0, none⟩) hbvw).trans kvX); (have HBW := Lib.hid hb); (have HOW := Lib.hid hown); clear hb hb' hown))
      have HBW1 : Hid (Below wo.heap.size wo w1) := Lib.hid (HBX.out.trans (HBW.out.mono HBX.out.size))
      have HF1 := Lib.hid (HF.out.kept HBW1.out)
      have K10 : Hid (w1.heap[w.heap.size]? = _) := Lib.hid ((HBW1.out.block w.heap.size (heapE_lt Ko0.out)).trans Ko0.out)
      have K11 : Hid (w1.heap[w.heap.size + 1]? = _) := Lib.hid ((HBW1.out.block (w.heap.size + 1) (heapE_lt Ko1.out)).trans Ko1.out)
      have hOJ : OwnJ 3 1 inI w1 X.heap.size vO (orderL mo nj cu) := HOW.out.ownJ
      have HOL : Hid ((orderL mo nj cu).length = nj) := Lib.hid HOW.out.len
      obtain ⟨AO, cO, hvO⟩ := hOJ.shape
      rw [HOL.out] at hvO
      subst hvO
      have HOJ := Lib.hid hOJ
      have HZX : Hid (wo.heap.size < X.heap.size ∧ X.heap.size ≤ w1.heap.size) := Lib.hid ⟨heapE_lt HX0.out, HBW.out.size⟩
      have HAW := Lib.hid (HAo.out.below HBW1.out)
      have HQW := Lib.hid (HQo.out.below HBW1.out)
      have HOV : Hid (orderL mo nj cu = ordV l ms vs a0) := Lib.hid (by
        unfold ordV
        rw [HMO.out.1, HCU.out.1, HNJ.out, Int.toNat_natCast, Int.toNat_natCast])
      clear hOJ z0 z1 z3 u1 kmX y1 kvX HOW HI hbvw hbmw
      go_wp2_with fail
      clear z2
      go_loopw [13, 14, 15, 47] (fun va vp _ v wr => ∃ (q ca ct : Nat) (Aa At : Option Addr), q ≤ nj ∧ v = .int .i64 (q : Int) ∧ va = .slice Aa q ca ∧ vp = .slice At q ct ∧ Hid (Below w1.heap.size w1 wr) ∧ Hid (OwnJ 4 1 boI wr w1.heap.size (.slice Aa q ca) ((List.range q).map (pinR l ps a0))) ∧ Hid (OwnJ 148 1 liU wr w1.heap.size (.slice At q ct) ((List.range q).map (parL l a0)))) (fun _ _ _ v _ => nj - (intOf v).toNat)
      case atStart => exact ⟨0, 0, 0, none, none, Nat.zero_le _, rfl, rfl, rfl, Lib.hid (Below.refl _ _), Lib.hid (OwnJ.nil_ _ _ _ _ _), Lib.hid (OwnJ.nil_ _ _ _ _ _)⟩
      case round =>
        obtain ⟨wi, hwi⟩ : ∃ x, x = wr := ⟨_, rfl⟩
        subst hwi
        obtain ⟨q, ca, ct, Aa, At, hq, rfl, rfl, rfl, HBi, HOA, HOP⟩ := hrel
        have Ki0 : Hid (wi.heap[w.heap.size]? = _) := Lib.hid ((HBi.out.block w.heap.size (heapE_lt K10.out)).trans K10.out)
        have Ki1 : Hid (wi.heap[w.heap.size + 1]? = _) := Lib.hid ((HBi.out.block (w.heap.size + 1) (heapE_lt K11.out)).trans K11.out)
        have hzi := HBi.out.size
        by_cases hqn : q < nj
        · have hd3 : decide ((q : Int) < (nj : Int)) = true := by simp; omega
          have hqi : (q : Int) < (nj : Int) := by omega
          have hq0 : (0 : Int) ≤ (q : Int) := by omega
          have hadd3 : IntKind.i64.wrap ((q : Int) + 1) = ((q + 1 : Nat) : Int) := by rw [IntWalk.i64_in _ (by omega)]; omega
          have HPN := Lib.hid (pinned_any (cp := cp) (cm := cm) (vv := q) (HAW.out.below HBi.out) (HQW.out.below HBi.out) hkn (by rw [HNJ.out]; exact hqn))
          obtain ⟨x0, _⟩ := row1f Ki0.out
          obtain ⟨y0, y1, _⟩ := row2 Ki1.out
          go_wp2_with fail
          refine HPN.out.mono ?_
          rintro e w2 ⟨rfl, hb⟩
          have HB2' : Hid (Below w1.heap.size w1 w2) := Lib.hid (HBi.out.trans (hb.mono hzi))
          have HO2 := Lib.hid (HOA.out.kept bo_turns hb)
          have HP2 := Lib.hid (HOP.out.kept liU_turns hb)
          clear hb x0 y0 y1 HPN
          obtain ⟨bq, HBQ⟩ : ∃ b, Hid (pinR l ps a0 q = b) := ⟨_, Lib.hid rfl⟩
          rw [HBQ.out]
          have HD := Lib.hid (cells_of (heap_new w2 (.cells #[.bool bq] 4)))
          have hz2 := HB2'.out.size
          go_wp2_with (at_builtin; refine wplJ_app bo_turns Tryz.underlying146 infoBo rfl (by decide) (by decide) rfl (.tmp 50) (.tmp 56) rfl w1.heap.size (.slice Aa q ca) ((List.range q).map (pinR l ps a0)) rfl (HO2.out.alloc bo_turns _) w2.heap.size [.bool bq] bq rfl rfl HD.out (by intro u hu; simp at hu; subst hu; rfl) rfl (by rw [rng_len]; omega) (by simp; omega) ?_; intro g5 c5 w5 hown5 hgr5; (rw [rng_len] at hown5 ⊢); (have HB5 : Hid (Below w1.heap.size w1 w5) := Lib.hid ((HB2'.out.alloc hz2 _).grown hgr5 (by simp; omega) (fun g hg => (HO2.out.ge g hg).1))); (have K50 : Hid (w5.heap[w.heap.size]? = _) := Lib.hid ((HB5.out.block w.heap.size (heapE_lt K10.out)).trans K10.out)); (obtain ⟨x0, _⟩ := row1f K50.out))
          have hal : Below w2.heap.size w2 (w2.alloc (.cells #[.bool bq] 4)) := (Below.refl _ w2).alloc (Nat.le_refl _) _
          have hoff : Off 4 (w2.alloc (.cells #[.bool bq] 4)) w5 := Off.of_grown hgr5 (HO2.out.kept bo_turns hal).bears
          have HO5 : Hid (OwnJ 4 1 boI w5 w1.heap.size (.slice (some ⟨g5, 0, none⟩) (q + 1) c5) ((List.range (q + 1)).map (pinR l ps a0))) := Lib.hid (by rw [rng_succ, HBQ.out]; exact hown5)
          have HP5 : Hid (OwnJ 148 1 liU w5 w1.heap.size (.slice At q ct) ((List.range q).map (parL l a0))) := Lib.hid ((HP2.out.kept liU_turns hal).off (by decide) (OwI.typ (by decide) FlI.typ) hoff)
          clear hal hoff hown5 hgr5 HD
          have HPT := Lib.hid (partners_any (vv := q) (HAW.out.below HB5.out) HS.out hkn)
          go_wp2_with fail
          refine HPT.out.mono ?_
          rintro e w6 ⟨vP, rfl, hownP, hb⟩
          have HB6 : Hid (Below w1.heap.size w1 w6) := Lib.hid (HB5.out.trans (hb.mono HB5.out.size))
          have HO6 := Lib.hid (HO5.out.kept bo_turns hb)
          have HP6 := Lib.hid (HP5.out.kept liU_turns hb)
          have HZ5 : Hid (w1.heap.size ≤ w5.heap.size) := Lib.hid HB5.out.size
          obtain ⟨AP, cP, hvP⟩ := hownP.shape
          have hPL : (parL l a0 q).length = a0 := unL_len _ _
          rw [hPL] at hvP
          subst hvP
          have hal : Below w6.heap.size w6 (w6.alloc (.cells #[.slice AP a0 cP] 148)) := (Below.refl _ w6).alloc (Nat.le_refl _) _
          have HIT : Hid (liU (w6.alloc (.cells #[.slice AP a0 cP] 148)) (Ap w1.heap.size (.slice At q ct)) [.slice AP a0 cP] (parL l a0 q)) := Lib.hid (liU_turns.go (hownP.itemO (M := fun b => b < w5.heap.size) un_turns (fun b hb => .inl hb)) (FrM.of_grown (row := none) (grown_alloc1 w6 _ none) (fun g hg => by cases hg)) (fun b hb => .inl (by
            rcases hb with hb | hb
            · exact (HP5.out.ge b hb).2
            · have := HZ5.out; show b < _; omega)))
          have HD := Lib.hid (cells_of (heap_new w6 (.cells #[.slice AP a0 cP] 148)))
          have hz6 := HB6.out.size
          clear hb hownP hPL x0 HPT
          go_wp2_with (at_builtin; refine wplJ_app liU_turns Tryz.underlying147 infoU64S rfl (by decide) (by decide) rfl (.tmp 58) (.tmp 63) rfl w1.heap.size (.slice At q ct) ((List.range q).map (parL l a0)) rfl (HP6.out.alloc liU_turns _) w6.heap.size [.slice AP a0 cP] (parL l a0 q) rfl rfl HD.out (by intro u hu; simp at hu; subst hu; rfl) HIT.out (by rw [rng_len]; omega) (by simp; omega) ?_; intro g7 c7 w7 hown7 hgr7; (rw [rng_len] at hown7 ⊢))
          have hoff : Off 148 (w6.alloc (.cells #[.slice AP a0 cP] 148)) w7 := Off.of_grown hgr7 (HP6.out.kept liU_turns hal).bears
          have HP7 : Hid (OwnJ 148 1 liU w7 w1.heap.size (.slice (some ⟨g7, 0, none⟩) (q + 1) c7) ((List.range (q + 1)).map (parL l a0))) := Lib.hid (by rw [rng_succ]; exact hown7)
          have HO7 : Hid (OwnJ 4 1 boI w7 w1.heap.size (.slice (some ⟨g5, 0, none⟩) (q + 1) c5) ((List.range (q + 1)).map (pinR l ps a0))) := Lib.hid ((HO6.out.kept bo_turns hal).off (by decide) FlI.typ hoff)
          have HB7 : Hid (Below w1.heap.size w1 w7) := Lib.hid ((HB6.out.alloc hz6 _).grown hgr7 (by simp; omega) (fun g hg => (HP6.out.ge g hg).1))
          clear hal hoff hown7 hgr7
          go_wp2_with fail
          go_roundw
          case rel => exact ⟨q + 1, c5, c7, some ⟨g5, 0, none⟩, some ⟨g7, 0, none⟩, by omega, by go_num, rfl, rfl, HB7, HO7, HP7⟩
          case measure => simp [intOf]; omega
        · have hd3 : decide ((q : Int) < (nj : Int)) = false := by simp; omega
          obtain rfl : q = nj := by omega
          have HFi := Lib.hid (HF1.out.kept HBi.out)
          have HOJi := Lib.hid (HOJ.out.kept in_turns HBi.out)
          have HAV : Hid ((List.range q).map (pinR l ps a0) = alwV l ps a0) := Lib.hid (by unfold alwV; rw [HNJ.out])
          have HPV : Hid ((List.range q).map (parL l a0) = ptsV l a0) := Lib.hid (by unfold ptsV; rw [HNJ.out])
          have HG1 : Hid (∀ g, (Value.slice A1 a0 c1).ownBlock = some g → g < wo.heap.size) := Lib.hid (fun g hg => (HF.out.o1.ge g hg).2)
          have HG2 : Hid (∀ g, (Value.slice A2' a0 c2').ownBlock = some g → g < wo.heap.size) := Lib.hid (fun g hg => (HF.out.o2.ge g hg).2)
          have HG3 : Hid (∀ g, (Value.slice A3 a0 c3).ownBlock = some g → g < wo.heap.size) := Lib.hid (fun g hg => (HF.out.o3.ge g hg).2)
          have hzi2 : wo.heap.size ≤ wi.heap.size := by have := HZX.out; omega
          have hal1 : Below wi.heap.size wi (wi.alloc (.cells #[.slice AO q cO] 39)) := (Below.refl _ wi).alloc (Nat.le_refl _) _
          have HD1 := Lib.hid (cells_of (heap_new wi (.cells #[.slice AO q cO] 39)))
          have HIT1 : Hid (liN (wi.alloc (.cells #[.slice AO q cO] 39)) (Ap (w.heap.size + 1 + 1 + 1 + 1) (.slice A1 a0 c1)) [.slice AO q cO] (orderL mo q cu)) := Lib.hid (liN_turns.go (HOJi.out.itemO (M := fun b => b < X.heap.size) in_turns (fun b hb => .inl hb)) (FrM.of_grown (row := none) (grown_alloc1 wi _ none) (fun g hg => by cases hg)) (fun b hb => .inl (by
            have := HZX.out
            rcases hb with hb | hb
            · have := HG1.out b hb; show b < X.heap.size; omega
            · have : b < w.heap.size + 1 + 1 + 1 + 1 := hb; show b < X.heap.size; omega)))
          have HZ1 := Lib.hid HZX.out.2
          obtain ⟨f0, f1, f2, z0, z1, z2⟩ := row3 HFi.out.box
          go_upto_region 17 with (at_builtin; refine wplJ_app liN_turns Tryz.underlying109 infoIntS rfl (by decide) (by decide) rfl (.tmp 67) (.tmp 69) rfl (w.heap.size + 1 + 1 + 1 + 1) (.slice A1 a0 c1) (ordsK l ms vs a0) rfl ((HFi.out.o1).alloc liN_turns _) wi.heap.size [.slice AO q cO] (orderL mo q cu) rfl rfl HD1.out (by intro u hu; simp at hu; subst hu; rfl) HIT1.out (by rw [ordsK_len]; omega) (by simp; omega) ?_; intro g8 c8 w8 hown8 hgr8; (rw [ordsK_len] at hown8 ⊢); (have M1 := (HFi.out.kept hal1).mid1 hgr8 hown8); (clear f0 f1 f2 z0 z1 z2); (obtain ⟨f0, f1, f2, z0, z1, z2⟩ := row3 M1.1))
          have HM1 := Lib.hid M1
          have hz8 : wi.heap.size + 1 ≤ w8.heap.size := by have := hgr8.size; rw [World.size_alloc] at this; exact this
          have HOA8 := Lib.hid (((HOA.out.kept bo_turns hal1).off (by decide) FlI.typ M1.2.2.1).off (by decide) FlI.typ M1.2.2.2)
          have HOP8 := Lib.hid (((HOP.out.kept liU_turns hal1).off (by decide) (OwI.typ (by decide) FlI.typ) M1.2.2.1).off (by decide) (OwI.typ (by decide) FlI.typ) M1.2.2.2)
          clear M1 hown8 hgr8
          have hal2 : Below (w8.setCell ⟨w.heap.size + 1 + 1 + 1, 0, none⟩ (.slice (some ⟨g8, 0, none⟩) (a0 + 1) c8)).heap.size (w8.setCell ⟨w.heap.size + 1 + 1 + 1, 0, none⟩ (.slice (some ⟨g8, 0, none⟩) (a0 + 1) c8)) ((w8.setCell ⟨w.heap.size + 1 + 1 + 1, 0, none⟩ (.slice (some ⟨g8, 0, none⟩) (a0 + 1) c8)).alloc (.cells #[.slice Aa q ca] 146)) := (Below.refl _ (w8.setCell ⟨w.heap.size + 1 + 1 + 1, 0, none⟩ (.slice (some ⟨g8, 0, none⟩) (a0 + 1) c8))).alloc (Nat.le_refl _) _
          have HD2 : Hid (∀ i u, (#[.slice Aa q ca] : Array Value).toList[i]? = some u → ((w8.setCell ⟨w.heap.size + 1 + 1 + 1, 0, none⟩ (.slice (some ⟨g8, 0, none⟩) (a0 + 1) c8)).alloc (.cells #[.slice Aa q ca] 146)).cell? ⟨w8.heap.size, i, none⟩ = some u) := Lib.hid (by have h0 := cells_of (heap_new (w8.setCell ⟨w.heap.size + 1 + 1 + 1, 0, none⟩ (.slice (some ⟨g8, 0, none⟩) (a0 + 1) c8)) (.cells #[.slice Aa q ca] 146)); rw [show (w8.setCell ⟨w.heap.size + 1 + 1 + 1, 0, none⟩ (.slice (some ⟨g8, 0, none⟩) (a0 + 1) c8)).heap.size = w8.heap.size by simp] at h0; exact h0)
          have HIT2 : Hid (liB ((w8.setCell ⟨w.heap.size + 1 + 1 + 1, 0, none⟩ (.slice (some ⟨g8, 0, none⟩) (a0 + 1) c8)).alloc (.cells #[.slice Aa q ca] 146)) (Ap (w.heap.size + 1 + 1 + 1 + 1) (.slice A2' a0 c2')) [.slice Aa q ca] ((List.range q).map (pinR l ps a0))) := Lib.hid (liB_turns.go (HOA8.out.itemO (M := fun b => b < w1.heap.size) bo_turns (fun b hb => .inl hb)) (FrM.of_grown (row := none) (grown_alloc1 (w8.setCell ⟨w.heap.size + 1 + 1 + 1, 0, none⟩ (.slice (some ⟨g8, 0, none⟩) (a0 + 1) c8)) _ none) (fun g hg => by cases hg)) (fun b hb => .inl (by
            have := HZX.out
            rcases hb with hb | hb
            · have := HG2.out b hb; show b < w1.heap.size; omega
            · have : b < w.heap.size + 1 + 1 + 1 + 1 := hb; show b < w1.heap.size; omega)))
          go_upto_region 18 with (at_builtin; refine wplJ_app liB_turns Tryz.underlying110 infoBoolS rfl (by decide) (by decide) rfl (.tmp 73) (.tmp 75) rfl (w.heap.size + 1 + 1 + 1 + 1) (.slice A2' a0 c2') (alwK l ps a0) rfl ((HM1.out.2.1.o2).alloc liB_turns _) w8.heap.size [.slice Aa q ca] ((List.range q).map (pinR l ps a0)) rfl rfl HD2.out (by intro u hu; simp at hu; subst hu; rfl) HIT2.out (by rw [alwK_len]; omega) (by simp; omega) ?_; intro g9 c9 w9 hown9 hgr9; (rw [alwK_len] at hown9 ⊢); (have M2 := (HM1.out.2.1.kept hal2).mid2 hgr9 hown9); (clear f0 f1 f2 z0 z1 z2); (obtain ⟨f0, f1, f2, z0, z1, z2⟩ := row3 M2.1))
          have HM2 := Lib.hid M2
          have hz9 : w8.heap.size + 1 ≤ w9.heap.size := by have := hgr9.size; rw [World.size_alloc] at this; simpa using this
          have HOP9 := Lib.hid (((HOP8.out.kept liU_turns hal2).off (by decide) (OwI.typ (by decide) FlI.typ) M2.2.2.1).off (by decide) (OwI.typ (by decide) FlI.typ) M2.2.2.2)
          clear M2 hown9 hgr9
          have hal3 : Below (w9.setCell ⟨w.heap.size + 1 + 1 + 1, 1, none⟩ (.slice (some ⟨g9, 0, none⟩) (a0 + 1) c9)).heap.size (w9.setCell ⟨w.heap.size + 1 + 1 + 1, 1, none⟩ (.slice (some ⟨g9, 0, none⟩) (a0 + 1) c9)) ((w9.setCell ⟨w.heap.size + 1 + 1 + 1, 1, none⟩ (.slice (some ⟨g9, 0, none⟩) (a0 + 1) c9)).alloc (.cells #[.slice At q ct] 147)) := (Below.refl _ (w9.setCell ⟨w.heap.size + 1 + 1 + 1, 1, none⟩ (.slice (some ⟨g9, 0, none⟩) (a0 + 1) c9))).alloc (Nat.le_refl _) _
          have HD3 : Hid (∀ i u, (#[.slice At q ct] : Array Value).toList[i]? = some u → ((w9.setCell ⟨w.heap.size + 1 + 1 + 1, 1, none⟩ (.slice (some ⟨g9, 0, none⟩) (a0 + 1) c9)).alloc (.cells #[.slice At q ct] 147)).cell? ⟨w9.heap.size, i, none⟩ = some u) := Lib.hid (by have h0 := cells_of (heap_new (w9.setCell ⟨w.heap.size + 1 + 1 + 1, 1, none⟩ (.slice (some ⟨g9, 0, none⟩) (a0 + 1) c9)) (.cells #[.slice At q ct] 147)); rw [show (w9.setCell ⟨w.heap.size + 1 + 1 + 1, 1, none⟩ (.slice (some ⟨g9, 0, none⟩) (a0 + 1) c9)).heap.size = w9.heap.size by simp] at h0; exact h0)
          have HIT3 : Hid (liP ((w9.setCell ⟨w.heap.size + 1 + 1 + 1, 1, none⟩ (.slice (some ⟨g9, 0, none⟩) (a0 + 1) c9)).alloc (.cells #[.slice At q ct] 147)) (Ap (w.heap.size + 1 + 1 + 1 + 1) (.slice A3 a0 c3)) [.slice At q ct] ((List.range q).map (parL l a0))) := Lib.hid (liP_turns.go (HOP9.out.itemO (M := fun b => b < w1.heap.size) liU_turns (fun b hb => .inl hb)) (FrM.of_grown (row := none) (grown_alloc1 (w9.setCell ⟨w.heap.size + 1 + 1 + 1, 1, none⟩ (.slice (some ⟨g9, 0, none⟩) (a0 + 1) c9)) _ none) (fun g hg => by cases hg)) (fun b hb => .inl (by
            have := HZX.out
            rcases hb with hb | hb
            · have := HG3.out b hb; show b < w1.heap.size; omega
            · have : b < w.heap.size + 1 + 1 + 1 + 1 := hb; show b < w1.heap.size; omega)))
          go_wp2_with (at_builtin; refine wplJ_app liP_turns Tryz.underlying111 infoU64SS rfl (by decide) (by decide) rfl (.tmp 79) (.tmp 81) rfl (w.heap.size + 1 + 1 + 1 + 1) (.slice A3 a0 c3) (ptsK l a0) rfl ((HM2.out.2.1.o3).alloc liP_turns _) w9.heap.size [.slice At q ct] ((List.range q).map (parL l a0)) rfl rfl HD3.out (by intro u hu; simp at hu; subst hu; rfl) HIT3.out (by rw [ptsK_len]; omega) (by simp; omega) ?_; intro g10 c10 w10 hown10 hgr10; (rw [ptsK_len] at hown10 ⊢); (have M3 := (HM2.out.2.1.kept hal3).mid3 hgr10 hown10); (clear f0 f1 f2 z0 z1 z2); (obtain ⟨f0, f1, f2, z0, z1, z2⟩ := row3 M3.1))
          have HFE : Hid (Fl3 w W (w10.setCell ⟨w.heap.size + 1 + 1 + 1, 2, none⟩ (.slice (some ⟨g10, 0, none⟩) (a0 + 1) c10)) (w.heap.size + 1 + 1 + 1) (w.heap.size + 1 + 1 + 1 + 1) (some ⟨g8, 0, none⟩) (some ⟨g9, 0, none⟩) (some ⟨g10, 0, none⟩) (a0 + 1) (a0 + 1) (a0 + 1) c8 c9 c10 (ordsK l ms vs (a0 + 1)) (alwK l ps (a0 + 1)) (ptsK l (a0 + 1))) := Lib.hid (by
            have := M3.2.1
            rw [HAV.out, HPV.out, HOV.out] at this
            rw [ordsK_succ, show alwK l ps (a0 + 1) = alwK l ps a0 ++ [alwV l ps a0] from rng_succ _ _, show ptsK l (a0 + 1) = ptsK l a0 ++ [ptsV l a0] from rng_succ _ _]
            exact this)
          clear M3 hown10 hgr10 f0 f1 f2 z0 z1 z2
          go_wp2_with fail
          go_roundw
          case rel => exact ⟨a0 + 1, c8, c9, c10, some ⟨g8, 0, none⟩, some ⟨g9, 0, none⟩, some ⟨g10, 0, none⟩, by omega, by go_num, HFE⟩
          case measure => simp [intOf]; omega
    · have hd2 : decide ((k : Int) < (n : Int)) = false := by simp; omega
      obtain rfl : k = n := by omega
      obtain ⟨f0, f1, f2, z0, z1, z2⟩ := row3 HF.out.box
      obtain ⟨p0, p1, p2, q0, q1, q2⟩ := row3 Ko2.out
      have HST := Lib.hid (grown_set3 wo (w.heap.size + 1 + 1) (.slice A1 k c1) (.slice A2' k c2') (.slice A3 k c3))
      have HFB := Lib.hid HF.out.bel
      obtain ⟨X, HX⟩ : ∃ X, Hid (X = ((wo.setCell ⟨w.heap.size + 1 + 1, 0, none⟩ (.slice A1 k c1)).setCell ⟨w.heap.size + 1 + 1, 1, none⟩ (.slice A2' k c2')).setCell ⟨w.heap.size + 1 + 1, 2, none⟩ (.slice A3 k c3)) := ⟨_, Lib.hid rfl⟩
      have HRD : Hid (FldRd X X.heap.size A1 A2' A3 k (ordsK l ms vs k) (alwK l ps k) (ptsK l k) ∧ Below w.heap.size w X) := Lib.hid (by
        have hof : Off 113 wo X := by rw [HX.out]; exact Off.of_grown HST.out (fun g hg => by injection hg with hg; subst hg; exact ⟨_, Ko2.out⟩)
        have hbx : Below w.heap.size w X := by
          rw [HX.out]
          exact ((HFB.out.setCell (p := ⟨w.heap.size + 1 + 1, 0, none⟩) (by show w.heap.size ≤ w.heap.size + 1 + 1; omega) _).setCell (p := ⟨w.heap.size + 1 + 1, 1, none⟩) (by show w.heap.size ≤ w.heap.size + 1 + 1; omega) _).setCell (p := ⟨w.heap.size + 1 + 1, 2, none⟩) (by show w.heap.size ≤ w.heap.size + 1 + 1; omega) _
        exact ⟨⟨((HF.out.o1.off (by decide) (OwI.typ (by decide) FlI.typ) hof).map (fun h => OwI.sl (fun h => h) h)).rd (SlI.turns in_turns) (fun b hb => .inr hb), ((HF.out.o2.off (by decide) (OwI.typ (by decide) FlI.typ) hof).map (fun h => OwI.sl (fun h => h) h)).rd (SlI.turns bo_turns) (fun b hb => .inr hb), ((HF.out.o3.off (by decide) (OwI.typ (by decide) (OwI.typ (by decide) FlI.typ)) hof).map (fun h => OwI.sl (fun h => OwI.sl (fun h => h) h) h)).rd (SlI.turns (SlI.turns un_turns)) (fun b hb => .inr hb), Nat.le_refl _⟩, hbx⟩)
      go_wp2_with fail
      refine bodyPost_ret (v := .tuple #[.agg #[.slice A1 k c1, .slice A2' k c2', .slice A3 k c3], .int .i64 0]) ?_ rfl ⟨A1, A2', A3, c1, c2', c3, rfl, ?_⟩
      · rw [results_cell_tmp rfl]; go_simp
      · have := HRD.out; rw [HX.out] at this; exact this
end Go.Proofs.YtlodledcglleiaaGreat

namespace Go.Proofs.YtlodledcglleiaaGreat
open Go.RowKit
open SemP DiP FlP GaP SeaP
set_option linter.unusedVariables false
set_option linter.unusedSimpArgs false
set_option maxRecDepth 10000
theorem rdJ_one {α : Type} [Inhabited α] {I : ItT α} {w : World} {M : Nat → Prop} {A : Option Addr} {n : Nat} {l : List α} (h : RdJ 1 I w M A n l) {j : Nat} (hj : j < n) : ∃ b off v, A = some ⟨b, off, none⟩ ∧ b < w.heap.size ∧ ¬ M b ∧ w.cell? ⟨b, off + j, none⟩ = some v ∧ I w M [v] (l.getD j default) := by
  obtain ⟨b, off, vs, e, hb, hn, hl, hc, hi⟩ := h.2 j hj
  match vs, hl with
  | [v], _ =>
    have := hc 0 v rfl
    rw [Nat.mul_one, Nat.add_zero] at this
    exact ⟨b, off, v, e, hb, hn, this, hi⟩
theorem SlI.rdJ {α : Type} [Inhabited α] {z : Nat} {I : ItT α} {w : World} {M : Nat → Prop} {A : Option Addr} {n c : Nat} {l : List α} (h : SlI z I w M [.slice A n c] l) : RdJ z I w M A n l := by
  obtain ⟨A', n', c', e, _, hr⟩ := h
  injection e with e _
  injection e with e1 e2 e3
  subst e1 e2 e3
  exact hr
theorem SlI.form {α : Type} [Inhabited α] {z : Nat} {I : ItT α} {w : World} {M : Nat → Prop} {v : Value} {l : List α} (h : SlI z I w M [v] l) : ∃ A c, v = .slice A l.length c ∧ RdJ z I w M A l.length l := by
  obtain ⟨A', n', c', e, _, hr⟩ := h
  injection e with e _
  have := hr.1
  subst this
  exact ⟨A', c', e, hr⟩
theorem has_bits0 {s v : Nat} (hs : s < lim) : (bits BinOp.and IntKind.u64 ((s : Int) / 2 ^ v) 1 == 0) = !(bt s v) := by
  have e : ((s : Int) / 2 ^ v) = ((s / 2 ^ v : Nat) : Int) := by simp
  have h1 : s / 2 ^ v < 18446744073709551616 := Nat.lt_of_le_of_lt (Nat.div_le_self _ _) hs
  rw [e, show (1 : Int) = ((1 : Nat) : Int) from rfl, u64_and_nat _ _ h1 (by decide), nat_mask1, bt_div]
  have : s / 2 ^ v % 2 < 2 := Nat.mod_lt _ (by decide)
  by_cases h : s / 2 ^ v % 2 = 1
  · rw [h]; rfl
  · have h0 : s / 2 ^ v % 2 = 0 := by omega
    rw [h0]; rfl
theorem alw_at {l : List Sv} {ps : List Nd} {n s v : Nat} (hs : s < n) (hv : v < (svAt l s).2.length) : ((alwK l ps n).getD s default).getD v default = pinR l ps s v := by
  have e : (alwK l ps n).getD s default = alwV l ps s := rng_at _ hs
  rw [e]; exact rng_at _ hv
set_option maxHeartbeats 8000000 in
theorem fbears_any {w : World} {B B2 n s c1 c2 c3 cc : Nat} {C A1 A2 A3 : Option Addr} {l : List Sv} {ps : List Nd} {x1 : List (List Int)} {cs : List Int} (h : FldRd w B A1 A2 A3 n x1 (alwK l ps n) (ptsK l n)) (hn : l.length = n) (hn16 : n ≤ 16) (hs12 : ∀ s ∈ l, s.2.length ≤ 12) (hc : Rd w B2 C (s + 1) cs) (hB2 : B2 ≤ w.heap.size) (hcap : CapA C (s + 1) cc) (hs : s < n) (hr : ∀ j, j ≤ s → isR l (j : Int) (ix cs j) = true) :
    Calls Tryz.prog 67 #[.agg #[.slice A1 n c1, .slice A2 n c2, .slice A3 n c3], .slice C (s + 1) cc] w fun e w' => e = .returned (.bool (okV l ps (cs.take s) (ix cs s))) ∧ Below w.heap.size w w' := by
  obtain ⟨W, HW⟩ : ∃ W, Hid (W = w.alloc (.cells #[.slice A1 n c1, .slice A2 n c2, .slice A3 n c3] 113)) := ⟨_, Lib.hid rfl⟩
  have hbl : Below w.heap.size w W := by rw [HW.out]; exact (Below.refl _ w).alloc (Nat.le_refl _) _
  have HBL := Lib.hid hbl
  have H0 : Hid (W.heap[w.heap.size]? = some (.cells #[.slice A1 n c1, .slice A2 n c2, .slice A3 n c3] 113 (0, 0))) := Lib.hid (by rw [HW.out]; exact heap_new w _)
  have HF := Lib.hid (h.below (hbl.mono h.le))
  have HC := Lib.hid (hc.below (hbl.mono hB2))
  have HNL := Lib.hid hn
  have HS12 := Lib.hid hs12
  have HR := Lib.hid hr
  have HCL : Hid (cs.length = s + 1) := Lib.hid hc.len
  have hsl : (Instr.slice 39 (.slice C (s + 1) cc) none (some (.int .i64 (s : Int))) none).run Tryz.prog W = .ok (.slice C s cc) W := slice_to Tryz.underlying39 (by kernel_rfl) infoInt hcap (Nat.le_succ s) W
  obtain ⟨a0, v, ha0, hv, _, hvl⟩ := isR_nat (hr s (Nat.le_refl _))
  obtain rfl : a0 = s := by omega
  have HV : Hid (ix cs a0 = (v : Int) ∧ v < (svAt l a0).2.length) := Lib.hid ⟨hv, hvl⟩
  have hv12 : v < 12 := by have := hs12 _ (svAt_mem (l := l) (i := a0) (by omega)); omega
  obtain ⟨bC, oC, hCC, hbC, kC⟩ := HC.out.at_ (Nat.lt_succ_self a0)
  subst hCC
  rw [HV.out.1] at kC
  have HTL : Hid ((cs.take a0).length = a0) := Lib.hid (by rw [List.length_take, HCL.out]; omega)
  have HOK : Hid (okV l ps (cs.take a0) (ix cs a0) = (pinR l ps a0 v && (List.range a0).all fun j => fitsC l (a0 : Int) (v : Int) (j : Int) (ix cs j))) := Lib.hid (by
    unfold okV
    rw [HTL.out, HV.out.1, Int.toNat_natCast]
    congr 1
    rw [Bool.eq_iff_iff, List.all_eq_true, List.all_eq_true]
    constructor
    · intro h j hj
      have := h j hj
      rw [ix_take (List.mem_range.1 hj)] at this; exact this
    · intro h j hj
      rw [ix_take (List.mem_range.1 hj)]; exact h j hj)
  obtain ⟨b2, o2, v2, hA2, hb2, _, k2, i2⟩ := rdJ_one HF.out.r2 (j := a0) hs
  obtain ⟨b3, o3, v3, hA3, hb3, _, k3, i3⟩ := rdJ_one HF.out.r3 (j := a0) hs
  subst hA2 hA3
  obtain ⟨D2, e2, hv2, r2⟩ := i2.form
  obtain ⟨D3, e3, hv3, r3⟩ := i3.form
  have l2 : ((alwK l ps n).getD a0 default).length = (svAt l a0).2.length := by rw [show (alwK l ps n).getD a0 default = alwV l ps a0 from rng_at _ hs]; exact rng_len _ _
  have g3 : (ptsK l n).getD a0 default = ptsV l a0 := rng_at _ hs
  rw [g3] at hv3 r3
  have l3 : (ptsV l a0).length = (svAt l a0).2.length := rng_len _ _
  obtain ⟨nr, HNR⟩ : ∃ nr, Hid ((svAt l a0).2.length = nr) := ⟨_, Lib.hid rfl⟩
  rw [l2, HNR.out] at hv2 r2
  rw [l3, HNR.out] at hv3 r3
  subst hv2 hv3
  have hvn : v < nr := by rw [← HNR.out]; exact hvl
  have hvI : (v : Int) < (nr : Int) := by omega
  have hv0 : (0 : Int) ≤ (v : Int) := by omega
  have hsI : (a0 : Int) < (n : Int) := by omega
  have hs0 : (0 : Int) ≤ (a0 : Int) := by omega
  obtain ⟨b4, o4, v4, hA4, hb4, _, k4, i4⟩ := rdJ_one r2 (j := v) hvn
  obtain ⟨b5, o5, v5, hA5, hb5, _, k5, i5⟩ := rdJ_one r3 (j := v) hvn
  subst hA4 hA5
  have g4 : v4 = .bool (pinR l ps a0 v) := by
    have : [v4] = [Value.bool (((alwK l ps n).getD a0 default).getD v default)] := i4
    rw [alw_at hs hvl] at this
    injection this
  obtain ⟨D5, e5, hv5, r5⟩ := i5.form
  have g5 : (ptsV l a0).getD v default = parL l a0 v := rng_at _ hvl
  rw [g5] at hv5 r5
  have l5 : (parL l a0 v).length = a0 := unL_len _ _
  rw [l5] at hv5 r5
  subst hv5 g4
  have HR5 := Lib.hid r5
  obtain ⟨x0, x1, x2, _⟩ := row3 H0.out
  clear hbl h hc hn hs12 hr r2 r3 r5 i2 i3 i4 i5 ha0 hv hvl l2 g3 l3 g5 l5 hcap
  have hsub : ((a0 + 1 : Nat) : Int) - 1 = (a0 : Int) := by omega
  have hsub2 : (a0 : Int) + 1 - 1 = (a0 : Int) := by omega
  have hidx : (a0 : Int) < (a0 : Int) + 1 := by omega
  have hidx2 : (a0 : Int) < ((a0 + 1 : Nat) : Int) := by omega
  go_enter Tryz.func67, Tryz.ntmps67
  go_upto_region 1 with fail
  change Code.wp _ _ _ _ (w.alloc (.cells #[.slice A1 n c1, .slice (some ⟨b2, o2, none⟩) n c2, .slice (some ⟨b3, o3, none⟩) n c3] 113))
  rw [← HW.out]
  cases hp : pinR l ps a0 v with
  | false =>
    rw [hp] at k4
    have HVV : Hid (okV l ps (cs.take a0) (ix cs a0) = false) := Lib.hid (by rw [HOK.out, hp, Bool.false_and])
    clear hp
    go_wp2_with fail
    refine bodyPost_ret (results_tmp rfl _ _ _) rfl ⟨?_, HBL.out⟩
    exact congrArg (fun b => Ending.returned (.bool b)) HVV.out.symm
  | true =>
    rw [hp] at k4
    have HVV : Hid (okV l ps (cs.take a0) (ix cs a0) = (List.range a0).all fun j => fitsC l (a0 : Int) (v : Int) (j : Int) (ix cs j)) := Lib.hid (by rw [HOK.out, hp, Bool.true_and])
    clear hp
    go_wp2_with fail
    clear kC k2 k4 hsl
    go_loop [7, 8, 29] (fun _ _ vk => ∃ j : Nat, j ≤ a0 ∧ vk = .int .i64 (j : Int) ∧ Hid (∀ q, q < j → fitsC l (a0 : Int) (v : Int) (q : Int) (ix cs q) = true)) (fun _ _ vk => a0 - (intOf vk).toNat)
    case atStart => exact ⟨0, Nat.zero_le _, rfl, Lib.hid (fun q h => absurd h (by omega))⟩
    case round =>
      obtain ⟨j, hj, rfl, HPK⟩ := hrel
      by_cases hjn : j < a0
      · have hd2 : decide ((j : Int) < (a0 : Int)) = true := by simp; omega
        have hji : (j : Int) < (a0 : Int) := by omega
        have hj0 : (0 : Int) ≤ (j : Int) := by omega
        have hadd2 : IntKind.i64.wrap ((j : Int) + 1) = ((j + 1 : Nat) : Int) := by rw [IntWalk.i64_in _ (by omega)]; omega
        obtain ⟨bD, oD, hCC, hbD, kD⟩ := HC.out.at_ (show j < a0 + 1 by omega)
        injection hCC with hCC
        injection hCC with e1 e2' _
        subst e1 e2'
        obtain ⟨b6, o6, v6, hA6, hb6, _, k6, i6⟩ := rdJ_one HR5.out (j := j) hjn
        subst hA6
        have g6 : v6 = .int .u64 ((parV l a0 v j : Nat) : Int) := by
          have : [v6] = [Value.int .u64 (((parL l a0 v).getD j default : Nat) : Int)] := i6
          rw [show (parL l a0 v).getD j default = parV l a0 v j from unL_at _ hjn] at this
          injection this
        subst g6
        obtain ⟨j0, x, hx0, hx, hjl, hxl⟩ := isR_nat (HR.out j (by omega))
        obtain rfl : j = j0 := by omega
        rw [hx] at kD
        have hx12 : x < 12 := by have := HS12.out _ (svAt_mem hjl); omega
        have hx0' : (0 : Int) ≤ (x : Int) := by omega
        have hsm := parM_small l a0 v j (svAt l j).2.length (by have := HS12.out _ (svAt_mem hjl); omega)
        have hbt : bt (parV l a0 v j) x = fitsC l (a0 : Int) (v : Int) (j : Int) (x : Int) := by
          unfold parV; rw [bt_parM, decide_eq_true hxl, Bool.true_and]
        obtain ⟨pm, HPM⟩ : ∃ pm, Hid (parV l a0 v j = pm) := ⟨_, Lib.hid rfl⟩
        have HPV : Hid (parV l a0 v j < lim) := Lib.hid hsm
        rw [HPM.out] at k6 hbt
        have hb0 := has_bits0 (s := pm) (v := x) (by rw [← HPM.out]; exact HPV.out)
        rw [hbt] at hb0
        have HX := Lib.hid hx
        clear hbt hsm hx hxl hjl hx0
        cases hq : fitsC l (a0 : Int) (v : Int) (j : Int) (x : Int) with
        | false =>
          rw [hq] at hb0
          have HF2 : Hid (okV l ps (cs.take a0) (ix cs a0) = false) := Lib.hid (by
            rw [HVV.out, List.all_eq_false]
            exact ⟨j, List.mem_range.2 hjn, by rw [HX.out, hq]; decide⟩)
          clear hq
          simp only [Bool.not_false] at hb0
          go_wp2_with fail
          refine bodyPost_ret (results_tmp rfl _ _ _) rfl ⟨?_, HBL.out⟩
          exact congrArg (fun b => Ending.returned (.bool b)) HF2.out.symm
        | true =>
          rw [hq] at hb0
          have HQ : Hid (fitsC l (a0 : Int) (v : Int) (j : Int) (ix cs j) = true) := Lib.hid (by rw [HX.out, hq])
          clear hq
          simp only [Bool.not_true] at hb0
          go_wp2_with fail
          go_round
          case rel => exact ⟨j + 1, by omega, by go_num, Lib.hid (fun q hq => by
            by_cases e : q = j
            · subst e; exact HQ.out
            · exact HPK.out q (by omega))⟩
          case measure => simp [intOf]; omega
      · have hd2 : decide ((j : Int) < (a0 : Int)) = false := by simp; omega
        obtain rfl : j = a0 := by omega
        have HF2 : Hid (okV l ps (cs.take j) (ix cs j) = true) := Lib.hid (by
          rw [HVV.out, List.all_eq_true]
          exact fun q hq => HPK.out q (List.mem_range.1 hq))
        go_wp2_with fail
        refine bodyPost_ret (results_tmp rfl _ _ _) rfl ⟨?_, HBL.out⟩
        exact congrArg (fun b => Ending.returned (.bool b)) HF2.out.symm
end Go.Proofs.YtlodledcglleiaaGreat
