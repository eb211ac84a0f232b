/-
  CONTRACT of the document's Levels, over this translation.
-/
import Derived.Test.YtinphdphloddmaaDRefOrd
import Derived.Test.YtinphdphloddmaaDLev
import Derived.Test.YtinphdphloddmaaDQue
import Derived.Deep.QuietTactic
import Derived.BigQuiet
import Derived.StillTailTactics
import Derived.IntWalk
namespace Go.Proofs.Ytinphdphloddmaa
open Go.RowKit
open DiP
set_option linter.unusedVariables false
namespace DiP
/-- The longest ways to a node, by the edges below k. -/
def mxE (g : List (Nat × Nat)) (lev : Nat → Nat) (v : Nat) : Nat → Nat
  | 0 => 0
  | k + 1 => if fb g k = v then max (mxE g lev v k) (lev (fa g k) + 1) else mxE g lev v k
theorem mxE_ge {g : List (Nat × Nat)} {lev : Nat → Nat} {v j : Nat} : ∀ k, j < k → fb g j = v → lev (fa g j) + 1 ≤ mxE g lev v k := by
  intro k
  induction k with
  | zero => intro h; omega
  | succ k ih =>
    intro hu hb
    unfold mxE
    by_cases h : j = k
    · subst h; rw [if_pos hb]; omega
    · have := ih (by omega) hb
      split <;> omega
theorem mxE_has {g : List (Nat × Nat)} {lev : Nat → Nat} {v : Nat} : ∀ k, mxE g lev v k = 0 ∨ ∃ j, j < k ∧ fb g j = v ∧ mxE g lev v k = lev (fa g j) + 1 := by
  intro k
  induction k with
  | zero => exact .inl rfl
  | succ k ih =>
    unfold mxE
    by_cases hb : fb g k = v
    · rw [if_pos hb]
      right
      by_cases hm : mxE g lev v k ≤ lev (fa g k) + 1
      · exact ⟨k, by omega, hb, by omega⟩
      · rcases ih with h0 | ⟨u, hu, hbu, he⟩
        · omega
        · exact ⟨u, by omega, hbu, by omega⟩
    · rw [if_neg hb]
      rcases ih with h0 | ⟨u, hu, hbu, he⟩
      · exact .inl h0
      · exact .inr ⟨u, by omega, hbu, he⟩
theorem mxE_le {g : List (Nat × Nat)} {lev : Nat → Nat} {v B : Nat} (h : ∀ u, lev u ≤ B) : ∀ k, mxE g lev v k ≤ B + 1 := by
  intro k
  induction k with
  | zero => exact Nat.zero_le _
  | succ k ih => unfold mxE; have := h (fa g k); split <;> omega
theorem mxE_all {g : List (Nat × Nat)} {n : Nat} (hi : InN n g) (lev : Nat → Nat) (v : Nat) : mxE g lev v g.length = mxK (befG g) lev v n := by
  apply Nat.le_antisymm
  · rcases mxE_has (g := g) (lev := lev) (v := v) g.length with h | ⟨j, hj, hb, he⟩
    · omega
    · rw [he]
      exact mxK_ge n (hi j hj).1 ((bt_befG g _ v).2 ⟨j, hj, rfl, hb⟩)
  · rcases mxK_has (bef := befG g) (lev := lev) (v := v) n with h | ⟨u, hu, hb, he⟩
    · omega
    · obtain ⟨j, hj, h1, h2⟩ := (bt_befG g u v).1 hb
      rw [he, ← h1]
      exact mxE_ge g.length hj h2
end DiP

/-- Where the document's Levels stands. -/
structure RlAt (wr w : World) (B gb lb N m c : Nat) (A A1 : Option Addr) (g : List (Nat × Nat)) (f : Nat → Nat) : Prop where
  own : Own wr lb (.slice (some ⟨lb, 0, none⟩) N N) N (levL N f)
  ord : 0 < N → ∃ ob, A1 = some ⟨ob, 0, none⟩ ∧ lb < ob ∧ ∀ k, k < N → wr.cell? ⟨ob, k, none⟩ = some (.int .i64 (nth (ordA (befG g) N) k : Int))
  box : Boxed wr gb (N : Int) A m c
  rd : RdG wr B A m g
  bel : Below w.heap.size w wr
  l1 : gb < lb
  l2 : B ≤ gb
  l3 : w.heap.size ≤ gb
theorem RlAt.set {wr w : World} {B gb lb N m c : Nat} {A A1 : Option Addr} {g : List (Nat × Nat)} {f : Nat → Nat} (h : RlAt wr w B gb lb N m c A A1 g f) (i x : Nat) (hi : i < N) : RlAt (wr.setCell ⟨lb, i, none⟩ (.int .i64 (x : Int))) w B gb lb N m c A A1 g (upd f i x) := by
  have l1 := h.l1
  have l2 := h.l2
  have l3 := h.l3
  refine ⟨by rw [← levL_set f x hi]; exact Own.store h.own i _, fun hN => ?_, ⟨?_, ?_⟩, RdE.keep h.rd (fun p hp => World.cell?_setCell_other _ _ _ _ (fun e => by subst e; simp at hp; omega)), h.bel.setCell (by simp; omega) _, l1, l2, l3⟩
  · obtain ⟨ob, e, hlt, hc⟩ := h.ord hN
    refine ⟨ob, e, hlt, fun k hk => ?_⟩
    rw [World.cell?_setCell_other _ _ _ _ (fun e => by injection e; omega)]; exact hc k hk
  · rw [World.cell?_setCell_other _ _ _ _ (fun e => by injection e; omega)]; exact h.box.1
  · rw [World.cell?_setCell_other _ _ _ _ (fun e => by injection e; omega)]; exact h.box.2
theorem RlAt.drewN {wr w : World} {B gb lb N m c : Nat} {A A1 : Option Addr} {g : List (Nat × Nat)} {f : Nat → Nat} (h : RlAt wr w B gb lb N m c A A1 g f) (k : Nat) : RlAt (wr.drewN k) w B gb lb N m c A A1 g f :=
  ⟨h.own, h.ord, h.box, h.rd, below_drewN h.bel k, h.l1, h.l2, h.l3⟩

set_option maxRecDepth 100000 in
set_option maxHeartbeats 2000000 in
theorem refLevels_any {w : World} {B m c N : Nat} {A : Option Addr} {g : List (Nat × Nat)} (hx : RdG w B A m g) (hi : InN N g) (hn : N ≤ 64) (hm : m ≤ 4096) (hB : B ≤ w.heap.size) (hG : Goes (befG g) N N) :
    Calls Try.prog 25 #[.agg #[.int .i64 (N : Int), .slice A m c]] w fun e w' => ∃ lb, e = .returned (.slice (some ⟨lb, 0, none⟩) N N) ∧ Own w' w.heap.size (.slice (some ⟨lb, 0, none⟩) N N) N (levL N (levG N g)) ∧ Below w.heap.size w w' := by
  have HX := Lib.hid hx
  have HI := Lib.hid hi
  have HL := Lib.hid hx.len
  have HG := Lib.hid hG
  clear hx hi hG
  go_enter Try.func25, Try.ntmps25
  have HB0 := Lib.hid (boxed_alloc w (N : Int) A m c 31)
  go_wp2_with (at_make; refine wpl_make rfl (.tmp 9) (.tmp 9) rfl (w.heap.size + 1) N rfl rfl (by omega) (by simp) ?_; intro w1 hown1 hgr1; (have hbx0 := (World.cell?_of_block (a := ⟨w.heap.size, 0, none⟩) (hgr1.block w.heap.size (by simp) nofun)).trans HB0.out.1); (have hbx1 := (World.cell?_of_block (a := ⟨w.heap.size, 1, none⟩) (hgr1.block w.heap.size (by simp) nofun)).trans HB0.out.2))
  have hs : (w.alloc (.cells #[.int .i64 (N : Int), .slice A m c] 31)).heap.size = w.heap.size + 1 := by simp
  rw [hs] at hown1
  have hl1 : w.heap.size + 1 < w1.heap.size := World.ownsRow.lt hown1 _ rfl |>.2
  have HB1 : Hid (Below w.heap.size w w1) := Lib.hid (((Below.refl _ _).alloc (Nat.le_refl _) _).grown hgr1 (by rw [hs]; omega) nofun)
  have HOW := Lib.hid hown1
  clear hown1 hgr1 hs
  go_wp2_with fail
  refine (refOrder_any (HX.out.below (HB1.out.mono hB)) HI.out hn hm (by omega) HG.out).mono ?_
  rintro e w2 ⟨v, rfl, hown, hb⟩
  obtain ⟨A1, c1, rfl, hrd⟩ := hown.shape
  have HF2 : Hid (RlAt w2 w B w.heap.size (w.heap.size + 1) N m c A A1 g (levS (befG g) N (ordA (befG g) N) 0)) := Lib.hid (by
    refine ⟨?_, fun hN => ?_, Boxed.below ⟨hbx0, hbx1⟩ hb (by omega), HX.out.below ((HB1.out.trans (hb.mono (by omega))).mono hB), HB1.out.trans (hb.mono (by omega)), by omega, hB, Nat.le_refl _⟩
    · have h := HOW.out.kept hb
      rw [levL_zero] at h
      exact h
    · obtain ⟨ob, c', hv, hbo, _⟩ := hown.form hN
      injection hv with h1 h2 h3
      subst h1
      refine ⟨ob, rfl, by omega, fun k hk => ?_⟩
      obtain ⟨b', off', hv', _, hc⟩ := hrd.at_ hk
      injection hv' with h1
      injection h1 with h1 h2
      subst h1 h2
      rw [ix_ints, Nat.zero_add] at hc
      exact hc)
  clear hown hrd hb hbx0 hbx1 HB1 HOW hl1
  generalize w.heap.size + 1 = lb at *
  have HSP := Lib.hid (levS_spec HI.out hn HG.out)
  rw [show (ordS (befG g) N N).2 = ordA (befG g) N from rfl] at HSP
  go_wp2_with fail
  go_loopw [5] (fun i wr => ∃ j : Nat, j ≤ N ∧ i = .int .i64 (j : Int) ∧ Hid (RlAt wr w B w.heap.size lb N m c A A1 g (levS (befG g) N (ordA (befG g) N) j))) (fun i _ => N - (intOf i).toNat)
  case atStart => exact ⟨0, by omega, rfl, HF2⟩
  case round =>
    clear HF2
    obtain ⟨j, hj, rfl, HF⟩ := hrel
    by_cases hlt : j < N
    · have HE := Lib.hid (HG.out.each j hlt)
      obtain ⟨hv, hr, _⟩ := lowest_spec HE.out
      rw [show (ordS (befG g) N N).2 = ordA (befG g) N from rfl] at hv hr
      obtain ⟨ob, rfl, hlo, hco0⟩ := HF.out.ord (by omega)
      clear hco0
      have HNS : Hid (∀ k, k < m → fb g k = nth (ordA (befG g) N) j → fa g k ≠ nth (ordA (befG g) N) j) := Lib.hid (fun k hk hb ha => by
        have hbt := (bt_befG g (fa g k) (nth (ordA (befG g) N) j)).2 ⟨k, by rw [HL.out]; exact hk, rfl, hb⟩
        rw [ha] at hbt
        have hz := rdy_zero hr
        rw [andn_zero (befG_small HI.out hn _) (ordS_lt _ hn j)] at hz
        have h1 := hz _ hbt
        have h2 : bt (ordS (befG g) N j).1 (nth (ordA (befG g) N) j) = false := rdy_new hr
        rw [h2] at h1; cases h1)
      have HNX : Hid (levS (befG g) N (ordA (befG g) N) (j + 1) = upd (levS (befG g) N (ordA (befG g) N) j) (nth (ordA (befG g) N) j) (mxE g (levS (befG g) N (ordA (befG g) N) j) (nth (ordA (befG g) N) j) m)) := Lib.hid (by rw [← HL.out, mxE_all HI.out]; rfl)
      have HLE := Lib.hid (levS_le (befG g) N (ordA (befG g) N) j)
      have H0 : Hid (upd (levS (befG g) N (ordA (befG g) N) j) (nth (ordA (befG g) N) j) 0 = levS (befG g) N (ordA (befG g) N) j) := Lib.hid (upd_self _ _ ((HSP.out j hj).2 _ (rdy_new hr)))
      have HNT : Hid (∀ wr f, RlAt wr w B w.heap.size lb N m c A (some ⟨ob, 0, none⟩) g f → wr.cell? ⟨ob, j, none⟩ = some (.int .i64 (nth (ordA (befG g) N) j : Int))) := Lib.hid (fun wr f h => by
        obtain ⟨ob', e, _, hc⟩ := h.ord (by omega)
        injection e with e
        injection e with e
        subst e
        exact hc j hlt)
      clear hr
      generalize nth (ordA (befG g) N) j = v at *
      generalize levS (befG g) N (ordA (befG g) N) j = lev at *
      obtain ⟨hbx0, hbx1⟩ := HF.out.box
      go_wp2_with fail
      go_loopw [6] (fun i wr => ∃ k : Nat, k ≤ m ∧ i = .int .i64 (k : Int) ∧ Hid (RlAt wr w B w.heap.size lb N m c A (some ⟨ob, 0, none⟩) g (upd lev v (mxE g lev v k)))) (fun i _ => m - (intOf i).toNat)
      case atStart => exact ⟨0, by omega, rfl, Lib.hid (by show RlAt _ _ _ _ _ _ _ _ _ _ _ (upd lev v 0); rw [H0.out]; exact HF.out)⟩
      case round =>
        clear HF hbx0 hbx1
        obtain ⟨k, hk, rfl, HF⟩ := hrel
        obtain ⟨hbx0, hbx1⟩ := HF.out.box
        by_cases hlk : k < m
        · obtain ⟨b, off, rfl, hbb, hca, hcb⟩ := HF.out.rd.at_ hlk
          obtain ⟨hfa, hfb⟩ := HI.out k (by rw [HL.out]; exact hlk)
          have hco := HNT.out _ _ HF.out
          have hx0 : (0 : Int) ≤ (fa g k : Int) := by omega
          have hx1 : (fa g k : Int) < (N : Int) := by omega
          have hx2 : (0 : Int) ≤ (v : Int) := by omega
          have hx3 : (v : Int) < (N : Int) := by omega
          have hla := HF.out.own.cell (j := fa g k) hfa
          have hlv := HF.out.own.cell (j := v) hv
          have hfz := HF.out.own.free v
          rw [levL_ix _ hfa] at hla
          rw [levL_ix _ hv, show upd lev v (mxE g lev v k) v = mxE g lev v k from if_pos rfl] at hlv
          by_cases he : fb g k = v
          · have hE : ((fb g k : Int) == (v : Int)) = true := by rw [he]; simp
            rw [show upd lev v (mxE g lev v k) (fa g k) = lev (fa g k) from if_neg (HNS.out k hlk he)] at hla
            have hl1 : lev (fa g k) ≤ 64 := by have := HLE.out (fa g k); omega
            have hl2 : mxE g lev v k ≤ 65 := by have := mxE_le (g := g) (v := v) HLE.out k; omega
            have HM : Hid (mxE g lev v (k + 1) = max (mxE g lev v k) (lev (fa g k) + 1)) := Lib.hid (by show (if _ then _ else _) = _; rw [if_pos he])
            clear he
            generalize lev (fa g k) = p at *
            generalize mxE g lev v k = q at *
            have hsum : IntKind.i64.wrap ((p : Int) + 1) = (p : Int) + 1 := IntWalk.i64_in _ (by omega)
            by_cases hgt : q < p + 1
            · have hd : decide ((q : Int) < (p : Int) + 1) = true := by simp; omega
              go_wp2_with fail
              go_quiet (fail)
              rename_i nq
              go_wp2_with fail
              obtain ⟨w5, HW5⟩ : ∃ w5, Hid (w5 = wr.drewN nq) := ⟨_, Lib.hid rfl⟩
              have HF5 : Hid (RlAt w5 w B w.heap.size lb N m c (some ⟨b, off, none⟩) (some ⟨ob, 0, none⟩) g (upd lev v q)) := Lib.hid (by rw [HW5.out]; exact HF.out.drewN nq)
              have hco5 : w5.cell? ⟨ob, j, none⟩ = some (.int .i64 (v : Int)) := by rw [HW5.out]; exact hco
              have hla5 : w5.cell? ⟨lb, fa g k, none⟩ = some (.int .i64 (p : Int)) := by rw [HW5.out]; exact hla
              have hlv5 : w5.cell? ⟨lb, v, none⟩ = some (.int .i64 (q : Int)) := by rw [HW5.out]; exact hlv
              have hfz5 : w5.frozen? ⟨lb, v, none⟩ = false := by rw [HW5.out]; exact hfz
              rw [← HW5.out]
              clear hbx0 hbx1 hca hcb hco hla hlv hfz hd hE HF HW5
              go_still_tail 11, (by kernel_rfl)
              obtain ⟨w6, HW6⟩ : ∃ w6, Hid (w6 = w5.drewN 1) := ⟨_, Lib.hid rfl⟩
              have e2 : ({ heap := w5.heap, tape := w5.tape, drawn := w5.drawn + 1, os := w5.os, output := w5.output } : World) = w6 := HW6.out.symm
              have HF6 : Hid (RlAt w6 w B w.heap.size lb N m c (some ⟨b, off, none⟩) (some ⟨ob, 0, none⟩) g (upd lev v q)) := Lib.hid (by rw [HW6.out]; exact HF5.out.drewN 1)
              have hlv6 : w6.cell? ⟨lb, v, none⟩ = some (.int .i64 (q : Int)) := by rw [HW6.out]; exact hlv5
              have hfz6 : w6.frozen? ⟨lb, v, none⟩ = false := by rw [HW6.out]; exact hfz5
              rw [e2]
              clear e2 hco5 hla5 hlv5 hfz5 HF5 HW6
              have HN : Hid (RlAt (w6.setCell ⟨lb, v, none⟩ (.int .i64 ((p : Int) + 1))) w B w.heap.size lb N m c (some ⟨b, off, none⟩) (some ⟨ob, 0, none⟩) g (upd lev v (mxE g lev v (k + 1)))) := Lib.hid (by
                have h := HF6.out.set v (p + 1) hv
                have e : upd (upd lev v q) v (p + 1) = upd lev v (mxE g lev v (k + 1)) := by
                  rw [HM.out, Nat.max_eq_right (by omega)]
                  funext u
                  unfold upd
                  split <;> rfl
                rw [e] at h
                exact h)
              go_wp2
              go_roundw
              case rel => exact ⟨k + 1, by omega, by go_num, HN⟩
              case measure => simp [intOf]; omega
            · have hd : decide ((q : Int) < (p : Int) + 1) = false := by simp; omega
              have HN : Hid (upd lev v (mxE g lev v (k + 1)) = upd lev v q) := Lib.hid (by rw [HM.out, Nat.max_eq_left (by omega)])
              go_wp2_with fail
              go_quiet (fail)
              rename_i nq
              go_wp2
              go_roundw
              case rel => exact ⟨k + 1, by omega, by go_num, Lib.hid (by rw [HN.out]; exact HF.out.drewN nq)⟩
              case measure => simp [intOf]; omega
          · have hE : ((fb g k : Int) == (v : Int)) = false := by simp; omega
            have HN : Hid (mxE g lev v (k + 1) = mxE g lev v k) := Lib.hid (by show (if _ then _ else _) = _; rw [if_neg he])
            clear he
            go_wp2_with fail
            go_quiet (fail)
            rename_i nq
            go_wp2
            go_roundw
            case rel => exact ⟨k + 1, by omega, by go_num, Lib.hid (by rw [HN.out]; exact HF.out.drewN nq)⟩
            case measure => simp [intOf]; omega
        · obtain rfl : k = m := by omega
          go_wp2
          go_roundw
          case rel => exact ⟨j + 1, by omega, by go_num, Lib.hid (by rw [HNX.out]; exact HF.out)⟩
          case measure => simp [intOf]; omega
    · obtain rfl : j = N := by omega
      go_wp2
      go_ret
      refine ⟨lb, rfl, ?_, HF.out.bel⟩
      have h := HF.out.own
      have hl1 := HF.out.l1
      exact h.less (by omega)
end Go.Proofs.Ytinphdphloddmaa
