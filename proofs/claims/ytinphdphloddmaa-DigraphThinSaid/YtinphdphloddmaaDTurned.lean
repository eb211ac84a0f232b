/-
  THE WALK of the statement DigraphTurned: whatever the graph, the call returns true and writes nothing that was there.
-/
import Derived.Test.YtinphdphloddmaaDReachM
import Derived.Test.YtinphdphloddmaaDPrefixes
namespace Go.Proofs.Ytinphdphloddmaa
open Go.RowKit
open DiP
set_option linter.unusedVariables false

theorem pcells_get {l : List (Nat × Nat)} : ∀ {j : Nat}, j < l.length → (pcells l)[j * 2]? = some (.int .i64 (fa l j : Int)) ∧ (pcells l)[j * 2 + 1]? = some (.int .i64 (fb l j : Int)) := by
  induction l with
  | nil => intro j h; simp at h
  | cons e r ih =>
    intro j h
    match j with
    | 0 => exact ⟨rfl, rfl⟩
    | j + 1 =>
      have := ih (j := j) (by simpa using h)
      rw [show (j + 1) * 2 = j * 2 + 1 + 1 by omega]
      exact this
theorem OwnP.rd {w : World} {base : Nat} {A : Option Addr} {m c : Nat} {l : List (Nat × Nat)} (h : OwnP w base (.slice A m c) l) (hm : l.length = m) : RdG w w.heap.size A m l := by
  refine ⟨by rw [castE_len]; exact hm, fun hn => ?_⟩
  obtain ⟨g, cap, hv, _, hlt⟩ := World.ownsRow.form h (by omega)
  injection hv with h1 h2 h3
  subst h1
  refine ⟨g, 0, rfl, hlt, fun j hj => ?_⟩
  obtain ⟨c0, c1⟩ := pcells_get (l := l) (j := j) (by omega)
  have e : ∀ x, (Addr.add ⟨g, 0, none⟩ x) = ⟨g, 0 + x, none⟩ := fun x => by unfold Addr.add; by_cases h0 : x = 0 <;> simp [h0]
  have k0 := World.ownsRow.cells h (g := g) rfl _ _ c0
  have k1 := World.ownsRow.cells h (g := g) rfl _ _ c1
  rw [e] at k0 k1
  rw [ea_cast, eb_cast]
  exact ⟨k0, by rw [Nat.add_assoc]; exact k1⟩
/-- The first k edges, turned round. -/
def tkG (g : List (Nat × Nat)) (k : Nat) : List (Nat × Nat) := (turnG g).take k
theorem turn_take (g : List (Nat × Nat)) {k : Nat} (h : k < g.length) : tkG g (k + 1) = tkG g k ++ [(fb g k, fa g k)] := by
  unfold tkG
  have hk : k < (turnG g).length := by rw [turn_len]; exact h
  rw [List.take_succ_eq_append_getElem hk]
  congr 2
  simp [turnG, fa, fb, List.getD, h]

/-- Where the loop that turns the edges stands. -/
structure TnAt (wr w : World) (B tb n m c : Nat) (A : Option Addr) (g : List (Nat × Nat)) (k : Nat) (v : Value) : Prop where
  own : OwnP wr (tb + 1) v (tkG g k)
  b0 : wr.cell? ⟨tb, 0, none⟩ = some (.int .i64 (n : Int))
  b1 : wr.cell? ⟨tb, 1, none⟩ = some v
  fz : wr.frozen? ⟨tb, 1, none⟩ = false
  o0 : wr.cell? ⟨w.heap.size, 0, none⟩ = some (.int .i64 (n : Int))
  o1 : wr.cell? ⟨w.heap.size, 1, none⟩ = some (.slice A m c)
  rd : RdG wr B A m g
  bel : Below w.heap.size w wr
  lw : w.heap.size < tb
  lB : B ≤ w.heap.size
  lt : tb < wr.heap.size
theorem grown_setCell (w : World) (b i : Nat) (v : Value) : w.grownBy (w.setCell ⟨b, i, none⟩ v) (some b) :=
  ⟨rfl, rfl, rfl, by simp, fun k hk hne => Below.heap_setCell w _ _ k (fun e => hne (by rw [e]))⟩
theorem TnAt.step {wr w w1 : World} {B tb n m c k : Nat} {A : Option Addr} {g : List (Nat × Nat)} {v v' : Value} {o1 o2 : Obj} (h : TnAt wr w B tb n m c A g k v) (hk : k < g.length)
    (ho : OwnP w1 (tb + 1) v' (tkG g k ++ [(fb g k, fa g k)])) (hg : ((wr.alloc o1).alloc o2).grownBy w1 v.ownBlock) :
    (w1.cell? ⟨tb, 1, none⟩ = some v ∧ w1.frozen? ⟨tb, 1, none⟩ = false) ∧ TnAt (w1.setCell ⟨tb, 1, none⟩ v') w B tb n m c A g (k + 1) v' := by
  have hge := h.own.ge
  have hge' := ho.ge
  have hne : ∀ z, z ≤ tb → some z ≠ v.ownBlock := fun z hz e => by have := hge z e.symm; omega
  have hsz : ((wr.alloc o1).alloc o2).heap.size = wr.heap.size + 2 := by simp
  have hlt : ∀ z, z ≤ tb → z < ((wr.alloc o1).alloc o2).heap.size := fun z hz => by have := h.lt; omega
  have hcell : ∀ z i, z ≤ tb → w1.cell? ⟨z, i, none⟩ = wr.cell? ⟨z, i, none⟩ := fun z i hz => by
    have h1 := World.cell?_of_block (a := ⟨z, i, none⟩) (hg.block z (hlt z hz) (hne z hz))
    rw [h1, World.cell?_alloc_lt _ _ _ (by have := h.lt; simp; omega), World.cell?_alloc_lt _ _ _ (by have := h.lt; show z < _; omega)]
  have hfz : w1.frozen? ⟨tb, 1, none⟩ = false := by
    have h1 := World.frozen?_of_block (a := ⟨tb, 1, none⟩) (hg.block tb (hlt tb (Nat.le_refl _)) (hne tb (Nat.le_refl _)))
    rw [h1, World.frozen?_alloc_past _ _ _ (by have := h.lt; simp; omega), World.frozen?_alloc_past _ _ _ h.lt]; exact h.fz
  have hc1 : w1.cell? ⟨tb, 1, none⟩ = some v := (hcell tb 1 (Nat.le_refl _)).trans h.b1
  have hlw := h.lw
  refine ⟨⟨hc1, hfz⟩, ⟨?_, ?_, ?_, ?_, ?_, ?_, ?_, ?_, h.lw, h.lB, ?_⟩⟩
  · rw [turn_take g hk]
    exact World.ownsRow.kept ho (grown_setCell w1 tb 1 v') (by
      cases hb : v'.ownBlock with
      | none => exact .inl rfl
      | some z => right; intro e; injection e with e; have := hge' z hb; omega)
  · rw [World.cell?_setCell_other _ _ _ _ (fun e => by injection e; omega), hcell tb 0 (Nat.le_refl _)]; exact h.b0
  · exact World.cell?_setCell_same _ _ _ hc1
  · rw [World.frozen?_setCell]; exact hfz
  · rw [World.cell?_setCell_other _ _ _ _ (fun e => by injection e; omega), hcell _ 0 (by omega)]; exact h.o0
  · rw [World.cell?_setCell_other _ _ _ _ (fun e => by injection e; omega), hcell _ 1 (by omega)]; exact h.o1
  · refine RdE.keep h.rd (fun p hp => ?_)
    have hB := h.lB
    rw [World.cell?_setCell_other _ _ _ _ (fun e => by subst e; simp at hp; omega)]
    have h1 := World.cell?_of_block (a := p) (hg.block p.block (hlt _ (by omega)) (hne _ (by omega)))
    rw [h1, World.cell?_alloc_lt _ _ _ (by have := h.lt; simp; omega), World.cell?_alloc_lt _ _ _ (by have := h.lt; omega)]
  · refine Below.setCell ?_ (by simp; omega) _
    exact (((h.bel.alloc h.bel.size _).alloc (by have := h.bel.size; simp; omega) _).grown hg (by have := h.bel.size; omega) (fun x hx => by have := hge x hx; omega))
  · have := hg.size; have := h.lt; simp at *; omega

set_option maxRecDepth 100000 in
set_option maxHeartbeats 2000000 in
theorem law_turned_go {w : World} {m c N : Nat} {A : Option Addr} {g : List (Nat × Nat)} (hx : RdG w w.heap.size A m g) (hi : InN N g) (hn : N ≤ 20) (hm : m ≤ 100) :
    Calls Try.prog 8 #[.agg #[.int .i64 (N : Int), .slice A m c]] w fun e w' => e = .returned (.bool true) ∧ Below w.heap.size w w' := by
  have HX := Lib.hid hx
  have HI := Lib.hid hi
  have HL := Lib.hid hx.len
  have HR := Lib.hid (graphR_cast hi (show N ≤ 64 by omega) (by rw [hx.len]; omega))
  have HSM : Hid ((decide (m ≤ 100) && decide ((N : Int) ≤ 20)) = true) := Lib.hid (by simp; omega)
  clear hx hi
  go_enter Try.func8, Try.ntmps8
  go_wp2_with fail
  refine (anchor_any _).mono ?_
  rintro e w1 ⟨rfl, hb⟩
  obtain ⟨hcn, hcs⟩ := (boxed_alloc w (N : Int) A m c 24).below hb (by simp)
  have HB1 : Hid (Below w.heap.size w w1) := Lib.hid (((Below.refl _ _).alloc (Nat.le_refl _) _).trans (hb.mono (by simp)))
  have hsz1 : w.heap.size < w1.heap.size := by have := hb.size; simp at this; omega
  clear hb
  go_wp2_with fail
  refine (small_right (HX.out.below HB1.out) HR.out (by omega)).mono ?_
  rintro e w2 ⟨rfl, hb⟩
  rw [HSM.out]
  obtain ⟨hcn2, hcs2⟩ := Boxed.below ⟨hcn, hcs⟩ hb hsz1
  have HB2 : Hid (Below w.heap.size w w2) := Lib.hid (HB1.out.trans (hb.mono (by omega)))
  have hsz2 : w.heap.size < w2.heap.size := Nat.lt_of_lt_of_le hsz1 hb.size
  clear hb hcn hcs hsz1 HB1
  go_wp2_with fail
  refine plain_any.mono ?_
  rintro e w3 ⟨rfl, hb⟩
  obtain ⟨hcn3, hcs3⟩ := Boxed.below ⟨hcn2, hcs2⟩ hb hsz2
  have HB3 : Hid (Below w.heap.size w w3) := Lib.hid (HB2.out.trans (hb.mono (by omega)))
  have hsz3 : w.heap.size < w3.heap.size := Nat.lt_of_lt_of_le hsz2 hb.size
  clear hb hcn2 hcs2 hsz2 HB2
  go_wp2_with fail
  refine (right_yes (HX.out.below HB3.out) HR.out (by omega)).mono ?_
  rintro e w4 ⟨rfl, hb⟩
  obtain ⟨hcn4, hcs4⟩ := Boxed.below ⟨hcn3, hcs3⟩ hb hsz3
  have HB4 : Hid (Below w.heap.size w w4) := Lib.hid (HB3.out.trans (hb.mono (by omega)))
  have hsz4 : w.heap.size < w4.heap.size := Nat.lt_of_lt_of_le hsz3 hb.size
  clear hb hcn3 hcs3 hsz3 HB3
  go_wp2_with fail
  obtain ⟨w5, hW⟩ : ∃ w5, w5 = w4.alloc (.cells #[.int .i64 (N : Int), .slice none 0 0] 24) := ⟨_, rfl⟩
  have HTN : Hid (TnAt w5 w w.heap.size w4.heap.size N m c A g 0 (.slice none 0 0)) := Lib.hid (by
    rw [hW]
    exact ⟨OwnP.nil_ _ _, by simp, by simp, by simp, (World.cell?_alloc_lt w4 _ _ hsz4).trans hcn4, (World.cell?_alloc_lt w4 _ _ hsz4).trans hcs4, RdE.alloc (HX.out.below HB4.out) (by omega) _, HB4.out.alloc (by omega) _, hsz4, Nat.le_refl _, by simp⟩)
  rw [← hW]
  clear hW hcn4 hcs4 HB4
  generalize w4.heap.size = tb at *
  clear hsz4
  go_loopw [31] (fun i wr => ∃ k : Nat, k ≤ m ∧ i = .int .i64 (k : Int) ∧ Hid (∃ v, TnAt wr w w.heap.size tb N m c A g k v)) (fun i _ => m - (intOf i).toNat)
  case atStart => exact ⟨0, by omega, rfl, Lib.hid ⟨_, HTN.out⟩⟩
  case round =>
    clear HTN
    obtain ⟨k, hk, rfl, HV⟩ := hrel
    obtain ⟨v, htn⟩ := HV.out
    clear HV
    have HTN := Lib.hid htn
    clear htn
    have hb0 := HTN.out.b0
    have hb1 := HTN.out.b1
    have hbf := HTN.out.fz
    have hlt := HTN.out.lt
    have hlw := HTN.out.lw
    by_cases hlk : k < m
    · obtain ⟨b, off, rfl, hbb, hca, hcb⟩ := HTN.out.rd.at_ hlk
      have HLN : Hid ((tkG g k).length ≤ 100) := Lib.hid (by unfold tkG; rw [List.length_take]; omega)
      go_wp2_with (at_builtin; refine wpl_appP rfl (.tmp 36) (.tmp 42) rfl (tb + 1) v (tkG g k) rfl ((HTN.out.own.alloc _).alloc _) (wr.heap.size + 1) (fb g k) (fa g k) rfl (by simp) (by simp) (by have := HLN.out; omega) (by simp; omega) ?_; intro g' c' w6 hown6 hgr6; obtain ⟨⟨hq1, hq2⟩, hq3⟩ := HTN.out.step (by rw [HL.out]; exact hlk) hown6 hgr6; (have HQ3 := Lib.hid hq3); clear hown6 hgr6 hq3 hb1 hbf)
      go_roundw
      case rel => exact ⟨k + 1, by omega, by go_num, Lib.hid ⟨_, HQ3.out⟩⟩
      case measure => simp [intOf]; omega
    · obtain rfl : k = m := by omega
      obtain ⟨Av, cv, rfl⟩ := HTN.out.own.shape
      have HLT : Hid (tkG g k = turnG g) := Lib.hid (List.take_of_length_le (by rw [turn_len, HL.out]; omega))
      have HTL : Hid ((turnG g).length = k) := Lib.hid (by rw [turn_len, HL.out])
      have hlen : (tkG g k).length ≤ 100 := by rw [HLT.out, HTL.out]; omega
      have HRT : Hid (RdG wr wr.heap.size Av (tkG g k).length (turnG g)) := Lib.hid (by
        have h := HTN.out.own.rd (m := (tkG g k).length) rfl
        rw [← HLT.out]; exact h)
      have HIT := Lib.hid (inN_turn HI.out)
      have ho0 := HTN.out.o0
      have ho1 := HTN.out.o1
      have hszw : w.heap.size < wr.heap.size := by omega
      have HSMR : Hid (∀ v, rchG N g v < lim) := Lib.hid (fun v => rchK_small HI.out (show N ≤ 64 by omega) N v)
      have HSMT : Hid (∀ v, rchG N (turnG g) v < lim) := Lib.hid (fun v => rchK_small HIT.out (show N ≤ 64 by omega) N v)
      go_wp2_with fail
      refine (reachM_any HTN.out.rd HI.out (by omega) (by omega) (by omega)).mono ?_
      rintro e w7 ⟨A1, c1, rfl, hrd1, hb7⟩
      have hb07 := (hb7.cell (p := ⟨tb, 0, none⟩) hlt).trans hb0
      have hb17 := (hb7.cell (p := ⟨tb, 1, none⟩) hlt).trans hb1
      have ho07 := (hb7.cell (p := ⟨w.heap.size, 0, none⟩) hszw).trans ho0
      have HRT7 : Hid (RdG w7 wr.heap.size Av (tkG g k).length (turnG g)) := Lib.hid (HRT.out.below hb7)
      have HRD1 := Lib.hid hrd1
      have hsz7 := hb7.size
      have HB7 : Hid (Below w.heap.size w w7) := Lib.hid (HTN.out.bel.trans (hb7.mono (by omega)))
      clear hb7 hrd1 hb0 hb1 ho0 ho1 hbf HRT
      go_wp2_with fail
      refine (reachM_any HRT7.out HIT.out (by omega) (by omega) (by omega)).mono ?_
      rintro e w8 ⟨A2, c2, rfl, hrd2, hb8⟩
      have ho08 := (hb8.cell (p := ⟨w.heap.size, 0, none⟩) (by show w.heap.size < _; omega)).trans ho07
      have HRD1' : Hid (RdU w8 A1 N (rchG N g)) := Lib.hid (HRD1.out.below hb8)
      have HRD2 := Lib.hid hrd2
      have HB8 : Hid (Below w.heap.size w w8) := Lib.hid (HB7.out.trans (hb8.mono (by omega)))
      clear hb8 hrd2 hb07 hb17 ho07 HRD1
      go_wp2_with fail
      go_loop [78] (fun i => ∃ q : Nat, q ≤ N ∧ i = .int .i64 (q : Int)) (fun i => N - (intOf i).toNat)
      case atStart => exact ⟨0, by omega, rfl⟩
      case round =>
        obtain ⟨q, hq, rfl⟩ := hrel
        by_cases hlq : q < N
        · obtain ⟨b1, o1, rfl, _, hc1⟩ := HRD1'.out (by omega)
          have hcq := hc1 q hlq
          have HC1 := Lib.hid hc1
          clear hc1
          go_wp2_with fail
          go_hide hQ
          go_loop [85] (fun i => ∃ p : Nat, p ≤ N ∧ i = .int .i64 (p : Int)) (fun i => N - (intOf i).toNat)
          case atStart => exact ⟨0, by omega, rfl⟩
          case round =>
            obtain ⟨p, hp, rfl⟩ := hrel
            by_cases hlp : p < N
            · obtain ⟨b2, o2, rfl, _, hc2⟩ := HRD2.out (by omega)
              have hcp := hc2 p hlp
              have HTU : Hid (bt (rchG N g q) p = bt (rchG N (turnG g) p) q) := Lib.hid (rch_turn g N (Nat.le_refl _) p q hlp hlq)
              clear hc2
              go_wp2_with fail
              refine (in_any (HSMR.out q) (by omega)).mono ?_; rintro e w' ⟨rfl, rfl⟩
              rw [show bt (rchG N g q) p = _ from HTU.out]
              go_wp2_with fail
              refine (in_any (HSMT.out p) (by omega)).mono ?_; rintro e w' ⟨rfl, rfl⟩
              go_wp2
              go_round
              case rel => exact ⟨p + 1, by omega, by go_num⟩
              case measure => simp [intOf]; omega
            · subst hQ
              obtain rfl : p = N := by omega
              go_wp2
              go_round
              case rel => exact ⟨q + 1, by omega, by go_num⟩
              case measure => simp [intOf]; omega
        · go_wp2
          go_ret
          exact ⟨rfl, HB8.out⟩
set_option maxRecDepth 100000 in
set_option maxHeartbeats 1000000 in
theorem law_turned_wrong {w : World} {m c : Nat} {n : Int} {A : Option Addr} {es : List (Int × Int)} (hx : RdE w w.heap.size A m es) (hr : ¬ GraphR n es) (hm : m ≤ 100) :
    Calls Try.prog 8 #[.agg #[.int .i64 n, .slice A m c]] w fun e w' => e = .returned (.bool true) ∧ Below w.heap.size w w' := by
  have HX := Lib.hid hx
  have HR := Lib.hid hr
  have HSM : Hid (decide (m ≤ 100) = true) := Lib.hid (by simp; omega)
  have hm0 : m ≤ 9223372036854775807 := by omega
  clear hx hr
  go_enter Try.func8, Try.ntmps8
  go_wp2_with fail
  refine (anchor_any _).mono ?_
  rintro e w1 ⟨rfl, hb⟩
  obtain ⟨hcn, hcs⟩ := (boxed_alloc w n A m c 24).below hb (by simp)
  have HB1 : Hid (Below w.heap.size w w1) := Lib.hid (((Below.refl _ _).alloc (Nat.le_refl _) _).trans (hb.mono (by simp)))
  have hsz1 : w.heap.size < w1.heap.size := by have := hb.size; simp at this; omega
  clear hb
  go_wp2_with fail
  refine (small_wrong (HX.out.below HB1.out) HR.out hm0 (by omega)).mono ?_
  rintro e w2 ⟨rfl, hb⟩
  rw [HSM.out]
  obtain ⟨hcn2, hcs2⟩ := Boxed.below ⟨hcn, hcs⟩ hb hsz1
  have HB2 : Hid (Below w.heap.size w w2) := Lib.hid (HB1.out.trans (hb.mono (by omega)))
  have hsz2 : w.heap.size < w2.heap.size := Nat.lt_of_lt_of_le hsz1 hb.size
  clear hb hcn hcs hsz1 HB1
  go_wp2_with fail
  refine plain_any.mono ?_
  rintro e w3 ⟨rfl, hb⟩
  have HB3 : Hid (Below w.heap.size w w3) := Lib.hid (HB2.out.trans (hb.mono (by omega)))
  have hsz3 : w.heap.size < w3.heap.size := Nat.lt_of_lt_of_le hsz2 hb.size
  clear hb HB2
  go_wp2_with fail
  refine (right_no (HX.out.below HB3.out) HR.out hm0 (by omega)).mono ?_
  rintro e w4 ⟨rfl, hb⟩
  have HB4 : Hid (Below w.heap.size w w4) := Lib.hid (HB3.out.trans (hb.mono (by omega)))
  clear hb
  go_wp2
  go_ret
  exact ⟨rfl, HB4.out⟩
set_option maxRecDepth 100000 in
set_option maxHeartbeats 1000000 in
theorem law_turned_great {w : World} {m c : Nat} {n : Int} {A : Option Addr} {es : List (Int × Int)} (hx : RdE w w.heap.size A m es) (hr : GraphR n es) (hsm : ¬ (m ≤ 100 ∧ n ≤ 20)) :
    Calls Try.prog 8 #[.agg #[.int .i64 n, .slice A m c]] w fun e w' => e = .returned (.bool true) ∧ Below w.heap.size w w' := by
  have HX := Lib.hid hx
  have HR := Lib.hid hr
  have HSM : Hid ((decide (m ≤ 100) && decide (n ≤ 20)) = false) := Lib.hid (by simp; omega)
  clear hx hr hsm
  go_enter Try.func8, Try.ntmps8
  go_wp2_with fail
  refine (anchor_any _).mono ?_
  rintro e w1 ⟨rfl, hb⟩
  obtain ⟨hcn, hcs⟩ := (boxed_alloc w n A m c 24).below hb (by simp)
  have HB1 : Hid (Below w.heap.size w w1) := Lib.hid (((Below.refl _ _).alloc (Nat.le_refl _) _).trans (hb.mono (by simp)))
  have hsz1 : w.heap.size < w1.heap.size := by have := hb.size; simp at this; omega
  clear hb
  go_wp2_with fail
  refine (small_right (HX.out.below HB1.out) HR.out (by omega)).mono ?_
  rintro e w2 ⟨rfl, hb⟩
  rw [HSM.out]
  have HB2 : Hid (Below w.heap.size w w2) := Lib.hid (HB1.out.trans (hb.mono (by omega)))
  clear hb
  go_wp2
  go_ret
  exact ⟨rfl, HB2.out⟩
set_option maxRecDepth 100000 in
set_option maxHeartbeats 1000000 in
theorem law_turned_long {w : World} {m c : Nat} {n : Int} {A : Option Addr} {es : List (Int × Int)} (hx : RdE w w.heap.size A m es) (hr : ¬ GraphR n es) (hm0 : m ≤ 9223372036854775807) (hsm : ¬ m ≤ 100) :
    Calls Try.prog 8 #[.agg #[.int .i64 n, .slice A m c]] w fun e w' => e = .returned (.bool true) ∧ Below w.heap.size w w' := by
  have HX := Lib.hid hx
  have HR := Lib.hid hr
  have HSM : Hid (decide (m ≤ 100) = false) := Lib.hid (by simp; omega)
  clear hx hr hsm
  go_enter Try.func8, Try.ntmps8
  go_wp2_with fail
  refine (anchor_any _).mono ?_
  rintro e w1 ⟨rfl, hb⟩
  obtain ⟨hcn, hcs⟩ := (boxed_alloc w n A m c 24).below hb (by simp)
  have HB1 : Hid (Below w.heap.size w w1) := Lib.hid (((Below.refl _ _).alloc (Nat.le_refl _) _).trans (hb.mono (by simp)))
  have hsz1 : w.heap.size < w1.heap.size := by have := hb.size; simp at this; omega
  clear hb
  go_wp2_with fail
  refine (small_wrong (HX.out.below HB1.out) HR.out hm0 (by omega)).mono ?_
  rintro e w2 ⟨rfl, hb⟩
  rw [HSM.out]
  have HB2 : Hid (Below w.heap.size w w2) := Lib.hid (HB1.out.trans (hb.mono (by omega)))
  clear hb
  go_wp2
  go_ret
  exact ⟨rfl, HB2.out⟩

theorem law_turned {w : World} {m c : Nat} {n : Int} {A : Option Addr} {es : List (Int × Int)} (hx : RdE w w.heap.size A m es) (hm0 : m ≤ 9223372036854775807) :
    Calls Try.prog 8 #[.agg #[.int .i64 n, .slice A m c]] w fun e w' => e = .returned (.bool true) ∧ Below w.heap.size w w' := by
  by_cases hr : GraphR n es
  · by_cases hsm : m ≤ 100 ∧ n ≤ 20
    · obtain ⟨N, g, rfl, rfl, hi, hN, hl⟩ := graph_nat hr
      exact law_turned_go hx hi (by omega) hsm.1
    · exact law_turned_great hx hr hsm
  · by_cases hm : m ≤ 100
    · exact law_turned_wrong hx hr hm
    · exact law_turned_long hx hr hm0 hm
end Go.Proofs.Ytinphdphloddmaa
