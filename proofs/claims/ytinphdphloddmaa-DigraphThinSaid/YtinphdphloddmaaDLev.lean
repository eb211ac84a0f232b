/-
  CONTRACT of Levels of package digraph, over this translation.
-/
import Derived.Test.YtinphdphloddmaaDThin
namespace Go.Proofs.Ytinphdphloddmaa
open Go.RowKit
open DiP
set_option linter.unusedVariables false

def levL (n : Nat) (f : Nat → Nat) : List Int := (List.range n).map fun i => (f i : Int)
theorem levL_len (n : Nat) (f : Nat → Nat) : (levL n f).length = n := by simp [levL]
theorem levL_ix {n : Nat} (f : Nat → Nat) {i : Nat} (h : i < n) : ix (levL n f) i = (f i : Int) := by simp [ix, levL, List.getD, h]
theorem levL_set {n : Nat} (f : Nat → Nat) {i : Nat} (x : Nat) (h : i < n) : (levL n f).set i (x : Int) = levL n (upd f i x) := by
  apply List.ext_getElem?
  intro j
  rw [List.getElem?_set]
  by_cases hj : i = j
  · subst hj; simp [levL, h, upd]
  · rw [if_neg hj]
    unfold levL upd
    rw [List.getElem?_map, List.getElem?_map]
    by_cases hl : j < n
    · have hji : ¬ j = i := fun e => hj e.symm
      simp [hl, hji]
    · simp [hl]
theorem levL_zero (n : Nat) : List.replicate n (0 : Int) = levL n (fun _ => 0) := by
  apply List.ext_getElem?
  intro j
  by_cases hl : j < n <;> simp [levL, hl]
theorem upd_self (f : Nat → Nat) (v : Nat) (h : f v = 0) : upd f v 0 = f := by
  funext u; unfold upd; split
  · rename_i e; rw [e, h]
  · rfl

theorem max_spell (a b : Nat) : (if (a : Int) < (b : Int) + 1 then (b : Int) + 1 else (a : Int)) = ((max a (b + 1) : Nat) : Int) := by split <;> omega

/-- Where the loops of Levels stand. -/
structure LvAt (wr : World) (w w3 : World) (bb lb n : Nat) (g : List (Nat × Nat)) (A : Option Addr) (f : Nat → Nat) : Prop where
  row : RowU wr bb (befG g)
  own : Own wr lb (.slice (some ⟨lb, 0, none⟩) n n) n (levL n f)
  ord : Rd wr w3.heap.size A n (ints (ordA (befG g) n))
  cell : wr.cell? ⟨w.heap.size, 0, none⟩ = some (.int .i64 (n : Int))
  bel : Below w.heap.size w wr
  l1 : w.heap.size < w3.heap.size
  l2 : w3.heap.size ≤ bb
  l3 : bb < lb
theorem LvAt.set {wr w w3 : World} {bb lb n : Nat} {g : List (Nat × Nat)} {A : Option Addr} {f : Nat → Nat} (h : LvAt wr w w3 bb lb n g A f) (i x : Nat) (hi : i < n) :
    LvAt (wr.drew.setCell ⟨lb, i, none⟩ (.int .i64 (x : Int))) w w3 bb lb n g A (upd f i x) :=
  ⟨h.row.drew.other (by have := h.l3; simp; omega) _, by rw [← levL_set f x hi]; exact Own.store (Own.drew h.own) i _,
    Rd.setCell (Rd.drew h.ord) (by have := h.l2; have := h.l3; simp; omega) _,
    by rw [World.cell?_setCell_other _ _ _ _ (fun e => by injection e; have := h.l1; have := h.l2; have := h.l3; omega)]; exact h.cell,
    (below_drewN h.bel 1).setCell (by have := h.l1; have := h.l2; have := h.l3; simp; omega) _, h.l1, h.l2, h.l3⟩

/-- What Levels answers. -/
def LevPost (g : List (Nat × Nat)) (n : Nat) (w : World) (e : Ending) (w' : World) : Prop :=
  Below w.heap.size w w' ∧ ∃ lb, w.heap.size ≤ lb ∧ e = .returned (.tuple #[.slice (some ⟨lb, 0, none⟩) n n, .int .i64 0]) ∧ Own w' lb (.slice (some ⟨lb, 0, none⟩) n n) n (levL n (levG n g))

set_option maxRecDepth 100000 in
set_option maxHeartbeats 1000000 in
theorem levels_any {w : World} {B m c n : Nat} {A : Option Addr} {g : List (Nat × Nat)} (hx : RdG w B A m g) (hB : B ≤ w.heap.size) (hi : InN n g) (hn : n ≤ 64) (hm : m ≤ 4096) (hG : Goes (befG g) n n) :
    Calls Try.prog 18 #[.agg #[.int .i64 n, .slice A m c]] w (LevPost g n w) := by
  have HX := Lib.hid hx
  have HI := Lib.hid hi
  have HG := Lib.hid hG
  have HSM := Lib.hid (befG_small hi hn)
  clear hx hi hG
  go_enter Try.func18, Try.ntmps18
  go_wp2_with fail
  refine (order_any (RdE.alloc HX.out hB _) HI.out hn hm (by simp; omega)).mono ?_
  rintro e w3 ⟨hb, ho⟩
  have HO1 : ∃ A1 c1, Hid (e = .returned (.tuple #[.slice A1 n c1, .int .i64 0])) ∧ Hid (Rd w3 w3.heap.size A1 n (ints (ordA (befG g) n))) := by
    rcases ho with ⟨_, A', c', h, hown⟩ | ⟨h, _⟩
    · obtain ⟨A2, c2, hv, hrd⟩ := hown.shape
      injection hv with h1 h2 h3
      subst h1
      exact ⟨A', c', Lib.hid h, Lib.hid hrd⟩
    · exact absurd HG.out h
  clear ho
  obtain ⟨A1, c1, he, HO⟩ := HO1
  obtain rfl := he.out
  clear he
  obtain ⟨hcn, hcs⟩ := (boxed_alloc w (n : Int) A m c 24).below hb (by simp)
  have HB3 : Hid (Below w.heap.size w w3) := Lib.hid (((Below.refl _ _).alloc (Nat.le_refl _) _).trans (hb.mono (by simp)))
  have hsz3 : w.heap.size < w3.heap.size := by have := hb.size; simp at this; omega
  clear hb
  go_wp2_with fail
  refine (before_any (HX.out.below (HB3.out.mono hB)) (by omega) HI.out hn hm).mono ?_
  rintro e w4 ⟨rfl, hb⟩
  have hcn4 := (hb.cell (p := ⟨w.heap.size, 0, none⟩) hsz3).trans hcn
  have HB4 : Hid (Below w.heap.size w w4) := Lib.hid (HB3.out.trans (hb.mono (by omega)))
  have HO4 : Hid (Rd w4 w3.heap.size A1 n (ints (ordA (befG g) n))) := Lib.hid (HO.out.below hb)
  have hsz4 : w3.heap.size ≤ w4.heap.size := hb.size
  clear hb hcn hcs
  have HZ := Lib.hid (sets_size (befG g))
  have HT : Hid ((w4.alloc (.cells (cellsU zeros) 89)).there w4.heap.size 0 (cellsU (befG g)).size) := Lib.hid ((rowU_new w4 zeros).there _ (cellsU_size _))
  obtain ⟨w5, hw5, HR5, hcn5, HO5, HB5, hsz5⟩ : ∃ w5, (w4.alloc (.cells (cellsU zeros) 89)).setCells w4.heap.size 0 (cellsU (befG g)).toList = w5 ∧ Hid (RowU w5 w4.heap.size (befG g)) ∧ w5.cell? ⟨w.heap.size, 0, none⟩ = some (.int .i64 (n : Int)) ∧ Hid (Rd w5 w3.heap.size A1 n (ints (ordA (befG g) n))) ∧ Hid (Below w.heap.size w w5) ∧ w4.heap.size < w5.heap.size := by
    have hr := (rowU_new w4 zeros).stored (f := befG g)
    have hb : Below w4.heap.size w4 ((w4.alloc (.cells (cellsU zeros) 89)).setCells w4.heap.size 0 (cellsU (befG g)).toList) := below_setCells (Nat.le_refl _) _ _ _ ((Below.refl _ _).alloc (Nat.le_refl _) _)
    refine ⟨_, rfl, Lib.hid hr, ?_, Lib.hid (HO4.out.below (hb.mono hsz4)), Lib.hid (HB4.out.trans (hb.mono (by omega))), World.rowIs.lt hr⟩
    rw [hb.cell (p := ⟨w.heap.size, 0, none⟩) (by simp; omega)]; exact hcn4
  rw [zeros_cells] at hw5 HT
  simp only [Array.replicate, List.replicate] at hw5 HT
  have HE := Lib.hid hw5
  clear hw5 hcn4
  go_wp2_with (first
    | (refine wpList_store_mid rfl 89 _ _ rfl w4.heap.size 0 (cellsU (befG g)) rfl rfl HT.out HZ.out (cellsU_one _) ?_; rw [HE.out])
    | (refine wpl_make rfl (.tmp 22) (.tmp 22) rfl w5.heap.size n rfl rfl (by omega) (Nat.le_refl _) ?_; intro w6 hown6 hgr6))
  have HLV : Hid (LvAt w6 w w3 w4.heap.size w5.heap.size n g A1 (levS (befG g) n (ordA (befG g) n) 0)) := Lib.hid
    ⟨World.rowIs.of_block HR5.out (hgr6.block _ hsz5 (by simp)), by rw [levL_zero] at hown6; exact hown6,
      HO5.out.grown hgr6 (by omega) (by simp), (World.cell?_of_block (hgr6.block w.heap.size (by omega) (by simp))).trans hcn5,
      HB5.out.grown hgr6 (by omega) (by simp), hsz3, hsz4, hsz5⟩
  clear hown6 hgr6 hcn5 HE HT HZ HR5 HO5 HB5 HO4 HB4 HO HB3
  generalize w5.heap.size = lb at HLV ⊢
  generalize w4.heap.size = bb at HLV ⊢
  clear hsz3 hsz4 hsz5
  have HSP := Lib.hid (levS_spec HI.out hn HG.out)
  rw [show (ordS (befG g) n n).2 = ordA (befG g) n from rfl] at HSP
  go_loopw [26] (fun i wr => ∃ j : Nat, j ≤ n ∧ i = .int .i64 (j : Int) ∧ Hid (LvAt wr w w3 bb lb n g A1 (levS (befG g) n (ordA (befG g) n) j))) (fun i _ => n - (intOf i).toNat)
  case atStart => exact ⟨0, by omega, rfl, HLV⟩
  case round =>
    clear HLV
    obtain ⟨j, hj, rfl, HLV⟩ := hrel
    have hcn := HLV.out.cell
    by_cases hlt : j < n
    · have HE := Lib.hid (HG.out.each j hlt)
      obtain ⟨hv, hr, _⟩ := lowest_spec HE.out
      obtain ⟨bo, oo, rfl, hbo, hco⟩ := HLV.out.ord.at_ (k := j) hlt
      rw [ix_ints] at hco
      have HV0 : Hid (levS (befG g) n (ordA (befG g) n) j (nth (ordA (befG g) n) j) = 0) := Lib.hid ((HSP.out j hj).2 _ (rdy_new hr))
      have HNS : Hid (bt (befG g (nth (ordA (befG g) n) j)) (nth (ordA (befG g) n) j) = false) := Lib.hid (by
        cases hb : bt (befG g (nth (ordA (befG g) n) j)) (nth (ordA (befG g) n) j) with
        | false => rfl
        | true =>
          have hz := rdy_zero hr
          rw [andn_zero (befG_small HI.out hn _) (ordS_lt _ hn j)] at hz
          have h1 := hz _ hb
          have h2 : bt (ordS (befG g) n j).1 (nth (ordA (befG g) n) j) = false := rdy_new hr
          rw [h2] at h1; exact h1.symm)
      have HNX : Hid (levS (befG g) n (ordA (befG g) n) (j + 1) = upd (levS (befG g) n (ordA (befG g) n) j) (nth (ordA (befG g) n) j) (mxK (befG g) (levS (befG g) n (ordA (befG g) n) j) (nth (ordA (befG g) n) j) n)) := Lib.hid rfl
      have HLE := Lib.hid (levS_le (befG g) n (ordA (befG g) n) j)
      clear HE hr
      have hv' : nth (ordA (befG g) n) j < n := hv
      clear hv
      generalize nth (ordA (befG g) n) j = v at hco hv' HV0 HNS HNX
      generalize levS (befG g) n (ordA (befG g) n) j = f at HLV HV0 HNX HLE
      have hv64 : v < 64 := by omega
      have hv65 : (v : Int) < 64 := by omega
      have hv66 : (v : Int) < (n : Int) := by omega
      have hv67 : (0 : Int) ≤ (v : Int) := by omega
      go_wp2_with fail
      go_hide hQ
      obtain ⟨wo, HWo⟩ : ∃ wo : World, Hid (wo = wr) := ⟨_, Lib.hid rfl⟩
      go_loopw [32] (fun i wr => ∃ k : Nat, k ≤ n ∧ i = .int .i64 (k : Int) ∧ Hid (LvAt wr w w3 bb lb n g (some ⟨bo, oo, none⟩) (upd f v (mxK (befG g) f v k)))) (fun i _ => n - (intOf i).toNat)
      case atStart => exact ⟨0, by omega, rfl, Lib.hid (by rw [show mxK (befG g) f v 0 = 0 from rfl, upd_self f v HV0.out]; exact HLV.out)⟩
      case round =>
        clear HLV
        obtain ⟨k, hk, rfl, HLV⟩ := hrel
        have hcn := HLV.out.cell
        by_cases hlk : k < n
        · have hk64 : k < 64 := by omega
          have hk65 : (k : Int) < 64 := by omega
          have hk66 : (k : Int) < (n : Int) := by omega
          have hk67 : (0 : Int) ≤ (k : Int) := by omega
          have hcv := HLV.out.row.cell hv64
          have hlv := HLV.out.own.cell (j := v) hv'
          have hlk' := HLV.out.own.cell (j := k) hlk
          have hlf := HLV.out.own.free v
          rw [levL_ix _ hv', upd_same] at hlv
          rw [levL_ix _ hlk] at hlk'
          have HN : Hid (mxK (befG g) f v (k + 1) = if bt (befG g v) k then max (mxK (befG g) f v k) (f k + 1) else mxK (befG g) f v k) := Lib.hid rfl
          have HM := Lib.hid (mxK_le (bef := befG g) (lev := f) (v := v) (B := j) HLE.out k)
          cases hb : bt (befG g v) k with
          | false =>
            have HB := Lib.hid hb
            clear hb
            go_wp2_with (go_at_call 52; refine (has_any (HSM.out v) hk64).mono ?_; rintro e w' ⟨rfl, rfl⟩; rw [HB.out])
            go_roundw
            case rel => exact ⟨k + 1, by omega, by go_num, Lib.hid (by rw [HN.out, HB.out]; exact HLV.out)⟩
            case measure => simp [intOf]; omega
          | true =>
            have hkv : k ≠ v := fun e => by subst e; rw [HNS.out] at hb; cases hb
            rw [upd_other f _ hkv] at hlk'
            have hfk := HLE.out k
            have HB := Lib.hid hb
            clear hb
            have HMX : Hid (upd (upd f v (mxK (befG g) f v k)) v (max (mxK (befG g) f v k) (f k + 1)) = upd f v (mxK (befG g) f v (k + 1))) := Lib.hid (by
              rw [HN.out, HB.out]
              funext u; unfold upd; split <;> simp)
            have hmle := HM.out
            go_wp2_with (go_at_call 52; refine (has_any (HSM.out v) hk64).mono ?_; rintro e w' ⟨rfl, rfl⟩; rw [HB.out])
            obtain ⟨w7, HW7⟩ : ∃ w7, Hid (w7 = wr.drew) := ⟨_, Lib.hid rfl⟩
            have hlv7 : w7.cell? ⟨lb, v, none⟩ = some (.int .i64 (mxK (befG g) f v k : Int)) := by rw [HW7.out]; exact hlv
            have hlk7 : w7.cell? ⟨lb, k, none⟩ = some (.int .i64 (f k : Int)) := by rw [HW7.out]; exact hlk'
            have hlf7 : w7.frozen? ⟨lb, v, none⟩ = false := by rw [HW7.out]; exact hlf
            refine wp_region_still_tail 13 (by kernel_rfl) (by kernel_rfl) ?_
            have e2 : { wr with drawn := wr.drawn + 1 } = w7 := HW7.out.symm
            rw [e2]
            clear e2
            simp only [List.take_succ_cons, List.take_zero, List.drop_succ_cons, List.drop_zero]
            repeat still_step
            refine wpStill_nil ?_
            go_wp2_with fail
            go_roundw
            case rel => exact ⟨k + 1, by omega, by go_num, Lib.hid (by
              rw [max_spell, HW7.out, ← HMX.out]
              exact HLV.out.set v _ hv')⟩
            case measure => simp [intOf]; omega
        · subst hQ
          obtain rfl : k = n := by omega
          go_wp2
          go_roundw
          case rel => exact ⟨j + 1, by omega, by go_num, Lib.hid (by rw [HNX.out]; exact HLV.out)⟩
          case measure => simp [intOf]; omega
    · obtain rfl : j = n := by omega
      go_wp2
      go_ret2
      exact ⟨HLV.out.bel, lb, by have := HLV.out.l1; have := HLV.out.l2; have := HLV.out.l3; omega, rfl, HLV.out.own⟩
end Go.Proofs.Ytinphdphloddmaa
