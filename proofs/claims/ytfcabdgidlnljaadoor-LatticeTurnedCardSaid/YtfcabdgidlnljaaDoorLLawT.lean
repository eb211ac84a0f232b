/-
  THE WALK of the statement LatticeTurned (printed by genlawlt.py), once a sort of 1024 sets is there (hS).
-/
import Derived.Test.YtfcabdgidlnljaaDoorLLaw0
import Derived.Test.YtfcabdgidlnljaaDoorLClErr
import Derived.Test.YtfcabdgidlnljaaDoorLTurE
import Derived.Test.YtfcabdgidlnljaaDoorDReady
namespace Go.Proofs.YtfcabdgidlnljaaDoor
open Go.RowKit
open DiP
set_option linter.unusedVariables false
set_option linter.unusedSimpArgs false
set_option maxRecDepth 100000
set_option maxHeartbeats 8000000 in
theorem law_turned_skip {w : World} {m c : Nat} {n : Int} {A : Option Addr} {es : List (Int × Int)} (hx : RdE w w.heap.size A m es) (hm0 : m ≤ 9223372036854775807) (hok : ¬ (m ≤ 60 ∧ (n ≤ 10 ∨ ¬ GraphR n es))) (hT : Tz w) (h0 : 0 < w.heap.size) :
    Calls Tryd.prog 10 #[.agg #[.int .i64 n, .slice A m c]] w fun e w' => e = .returned (.bool true) ∧ Below w.heap.size w w' := by
  obtain ⟨k, hk⟩ : ∃ k, w.heap.size = k := ⟨_, rfl⟩
  have Hk := Lib.hid hk
  obtain ⟨W0, hW0⟩ : ∃ W0, w.alloc (.cells #[.int .i64 n, .slice A m c] 24) = W0 := ⟨_, rfl⟩
  have hb0 : Below k w W0 := by rw [← hW0, ← hk]; exact (Below.refl _ w).alloc (Nat.le_refl _) _
  have hz0 : W0.heap.size = k + 1 := by rw [← hW0, World.size_alloc, hk]
  have hh0 : W0.heap[k]? = some (.cells #[.int .i64 n, .slice A m c] 24 (0, 0)) := by rw [← hW0, ← hk]; exact World.alloc_heap_new _ _
  have HB0 := Lib.hid hb0
  have HZ0 := Lib.hid hz0
  have HH0 := Lib.hid hh0
  have HX := Lib.hid hx
  have HAN := Lib.hid (anchor_any W0 (hT.below hb0 (by omega)) (by omega))
  have HW0 := Lib.hid hW0
  have HT0 : Hid (Tz w) := Lib.hid hT
  clear hx hT hb0 hz0 hh0 hW0
  go_enter Tryd.func10, Tryd.ntmps10
  go_wp2_with fail
  rw [HW0.out]
  refine HAN.out.mono ?_
  rintro e W1 ⟨rfl, hb⟩
  clear HAN
  have HB1 : Hid (Below k w W1) := Lib.hid (HB0.out.trans (hb.mono (by rw [HZ0.out]; omega)))
  have HZ1 : Hid (k + 1 ≤ W1.heap.size) := Lib.hid (by have := hb.size; rw [HZ0.out] at this; exact this)
  have HH1 : Hid (W1.heap[k]? = some (.cells #[.int .i64 n, .slice A m c] 24 (0, 0))) := Lib.hid ((hb.block k (by rw [HZ0.out]; omega)).trans HH0.out)
  have hg := HH1.out
  have hc0 : W1.cell? ⟨k, 0, none⟩ = some (.int .i64 n) := by simp [World.cell?, hg]
  have hc1 : W1.cell? ⟨k, 1, none⟩ = some (.slice A m c) := by simp [World.cell?, hg]
  have HPL := Lib.hid (plain_any (c := c) (z := n) (HX.out.below (B := w.heap.size) (by rw [Hk.out]; exact HB1.out)) (by rw [Hk.out]; have := HZ1.out; omega) hm0 false ⟨nofun, fun h => (hok h).elim⟩)
  clear hb hg
  go_wp2_with fail
  refine HPL.out.mono ?_
  rintro e W2 ⟨rfl, hb⟩
  clear HPL hc0 hc1
  obtain ⟨p2, hp2⟩ : ∃ p2, W2.heap.size = p2 := ⟨_, rfl⟩
  obtain ⟨W3, hW3⟩ : ∃ W3, W2.alloc (.cells #[.int .i64 n, .slice A m c] 26) = W3 := ⟨_, rfl⟩
  have hkp : k < p2 := by rw [← hp2]; exact Nat.lt_of_lt_of_le (show k < W1.heap.size by have := HZ1.out; omega) hb.size
  have HKP := Lib.hid hkp
  have HB3 : Hid (Below k w W3) := Lib.hid (by rw [← hW3]; exact (HB1.out.trans (hb.mono (by have := HZ1.out; omega))).alloc (by omega) _)
  have HZ3 : Hid (p2 + 1 ≤ W3.heap.size) := Lib.hid (by rw [← hW3, World.size_alloc, hp2]; omega)
  have HG3 : Hid (W3.heap[k]? = some (.cells #[.int .i64 n, .slice A m c] 24 (0, 0))) := Lib.hid (by rw [← hW3, Below.heap_alloc _ _ _ (by omega)]; exact (hb.block k (by have := HZ1.out; omega)).trans HH1.out)
  have HP3 : Hid (W3.heap[p2]? = some (.cells #[.int .i64 n, .slice A m c] 26 (0, 0))) := Lib.hid (by rw [← hW3, ← hp2]; exact World.alloc_heap_new _ _)
  have HW3 := Lib.hid hW3
  clear hb hW3 hkp
  go_wp2
  rw [HW3.out]
  go_ret
  exact ⟨rfl, by rw [Hk.out]; exact HB3.out⟩
set_option maxHeartbeats 8000000 in
theorem law_turned_wrong {w : World} {m c : Nat} {n : Int} {A : Option Addr} {es : List (Int × Int)} (hx : RdE w w.heap.size A m es) (hm0 : m ≤ 9223372036854775807) (hm : m ≤ 60) (hr : ¬ GraphR n es) (hT : Tz w) (h0 : 0 < w.heap.size) :
    Calls Tryd.prog 10 #[.agg #[.int .i64 n, .slice A m c]] w fun e w' => e = .returned (.bool true) ∧ Below w.heap.size w w' := by
  obtain ⟨k, hk⟩ : ∃ k, w.heap.size = k := ⟨_, rfl⟩
  have Hk := Lib.hid hk
  obtain ⟨W0, hW0⟩ : ∃ W0, w.alloc (.cells #[.int .i64 n, .slice A m c] 24) = W0 := ⟨_, rfl⟩
  have hb0 : Below k w W0 := by rw [← hW0, ← hk]; exact (Below.refl _ w).alloc (Nat.le_refl _) _
  have hz0 : W0.heap.size = k + 1 := by rw [← hW0, World.size_alloc, hk]
  have hh0 : W0.heap[k]? = some (.cells #[.int .i64 n, .slice A m c] 24 (0, 0)) := by rw [← hW0, ← hk]; exact World.alloc_heap_new _ _
  have HB0 := Lib.hid hb0
  have HZ0 := Lib.hid hz0
  have HH0 := Lib.hid hh0
  have HX := Lib.hid hx
  have HAN := Lib.hid (anchor_any W0 (hT.below hb0 (by omega)) (by omega))
  have HW0 := Lib.hid hW0
  have HT0 : Hid (Tz w) := Lib.hid hT
  clear hx hT hb0 hz0 hh0 hW0
  go_enter Tryd.func10, Tryd.ntmps10
  go_wp2_with fail
  rw [HW0.out]
  refine HAN.out.mono ?_
  rintro e W1 ⟨rfl, hb⟩
  clear HAN
  have HB1 : Hid (Below k w W1) := Lib.hid (HB0.out.trans (hb.mono (by rw [HZ0.out]; omega)))
  have HZ1 : Hid (k + 1 ≤ W1.heap.size) := Lib.hid (by have := hb.size; rw [HZ0.out] at this; exact this)
  have HH1 : Hid (W1.heap[k]? = some (.cells #[.int .i64 n, .slice A m c] 24 (0, 0))) := Lib.hid ((hb.block k (by rw [HZ0.out]; omega)).trans HH0.out)
  have hg := HH1.out
  have hc0 : W1.cell? ⟨k, 0, none⟩ = some (.int .i64 n) := by simp [World.cell?, hg]
  have hc1 : W1.cell? ⟨k, 1, none⟩ = some (.slice A m c) := by simp [World.cell?, hg]
  have HPL := Lib.hid (plain_any (c := c) (z := n) (HX.out.below (B := w.heap.size) (by rw [Hk.out]; exact HB1.out)) (by rw [Hk.out]; have := HZ1.out; omega) hm0 true ⟨fun _ => ⟨hm, .inr hr⟩, fun _ => rfl⟩)
  clear hb hg
  go_wp2_with fail
  refine HPL.out.mono ?_
  rintro e W2 ⟨rfl, hb⟩
  clear HPL hc0 hc1
  obtain ⟨p2, hp2⟩ : ∃ p2, W2.heap.size = p2 := ⟨_, rfl⟩
  obtain ⟨W3, hW3⟩ : ∃ W3, W2.alloc (.cells #[.int .i64 n, .slice A m c] 26) = W3 := ⟨_, rfl⟩
  have hkp : k < p2 := by rw [← hp2]; exact Nat.lt_of_lt_of_le (show k < W1.heap.size by have := HZ1.out; omega) hb.size
  have HKP := Lib.hid hkp
  have HB3 : Hid (Below k w W3) := Lib.hid (by rw [← hW3]; exact (HB1.out.trans (hb.mono (by have := HZ1.out; omega))).alloc (by omega) _)
  have HZ3 : Hid (p2 + 1 ≤ W3.heap.size) := Lib.hid (by rw [← hW3, World.size_alloc, hp2]; omega)
  have HG3 : Hid (W3.heap[k]? = some (.cells #[.int .i64 n, .slice A m c] 24 (0, 0))) := Lib.hid (by rw [← hW3, Below.heap_alloc _ _ _ (by omega)]; exact (hb.block k (by have := HZ1.out; omega)).trans HH1.out)
  have HP3 : Hid (W3.heap[p2]? = some (.cells #[.int .i64 n, .slice A m c] 26 (0, 0))) := Lib.hid (by rw [← hW3, ← hp2]; exact World.alloc_heap_new _ _)
  have HW3 := Lib.hid hW3
  clear hb hW3 hkp
  have hg := HG3.out
  have g0 : W3.cell? ⟨k, 0, none⟩ = some (.int .i64 n) := by simp [World.cell?, hg]
  have g1 : W3.cell? ⟨k, 1, none⟩ = some (.slice A m c) := by simp [World.cell?, hg]
  clear hg
  obtain ⟨tb, htb⟩ : ∃ tb, W3.heap.size = tb := ⟨_, rfl⟩
  obtain ⟨W6, hW6⟩ : ∃ W6, W3.alloc (.cells #[.int .i64 n, .slice none 0 0] 24) = W6 := ⟨_, rfl⟩
  have hkt : k < tb := by rw [← htb]; have := HZ3.out; have := HKP.out; omega
  have HTN : Hid (TnE W6 w w.heap.size tb n m c A es 0 (.slice none 0 0)) := Lib.hid (by
    rw [← hW6, ← htb]
    exact ⟨OwnE.nil_ _ _, by simp, by simp, by simp, (World.cell?_alloc_lt W3 _ ⟨w.heap.size, 0, none⟩ (by rw [Hk.out, htb]; exact hkt)).trans (by rw [Hk.out]; exact g0), (World.cell?_alloc_lt W3 _ ⟨w.heap.size, 1, none⟩ (by rw [Hk.out, htb]; exact hkt)).trans (by rw [Hk.out]; exact g1), RdE.alloc (HX.out.below (B := w.heap.size) (by rw [Hk.out]; exact HB3.out)) (by rw [Hk.out]; have := HZ3.out; have := HKP.out; omega) _, by rw [Hk.out]; exact HB3.out.alloc (by rw [htb]; omega) _, by rw [Hk.out, htb]; exact hkt, Nat.le_refl _, by simp⟩)
  have HW6 := Lib.hid hW6
  have Htb := Lib.hid htb
  have HL : Hid (es.length = m) := Lib.hid HX.out.1
  have g6 := HTN.out.o1
  have hW3 := HW3.out
  rw [Hk.out, ← hW6, ← hW3] at g6
  rw [← hW3] at g0 g1
  have HPT : Hid (p2 + 1 = tb) := Lib.hid (by rw [← htb, ← hW3, World.size_alloc, hp2])
  clear hW6 hkt htb hW3
  go_wp2_with fail
  rw [HW3.out, HW6.out, HPT.out]
  clear g6 HG3 HP3 HH1 HH0 HB3 HB1 HB0 HZ3 HZ1 HZ0 HW3 HW0 g0 g1
  go_loopw [34] (fun i wr => ∃ q : Nat, q ≤ m ∧ i = .int .i64 (q : Int) ∧ Hid (∃ v, TnE wr w w.heap.size tb n m c A es q v)) (fun i _ => m - (intOf i).toNat)
  case atStart => exact ⟨0, by omega, rfl, Lib.hid ⟨_, HTN.out⟩⟩
  case round =>
    clear HTN
    obtain ⟨q, hq, rfl, HV⟩ := hrel
    obtain ⟨v, htn⟩ := HV.out
    clear HV
    have HTN := Lib.hid htn
    clear htn
    have hb0 := HTN.out.b0
    have hb1 := HTN.out.b1
    have hbf := HTN.out.fz
    have hlt := HTN.out.lt
    have hlw := HTN.out.lw
    by_cases hlk : q < m
    · obtain ⟨b, off, rfl, hbb, hca, hcb⟩ := HTN.out.rd.at_ hlk
      obtain ⟨x1, hx1⟩ : ∃ x1, ea es q = x1 := ⟨_, rfl⟩
      obtain ⟨x2, hx2⟩ : ∃ x2, eb es q = x2 := ⟨_, rfl⟩
      have HXX : Hid (ea es q = x1 ∧ eb es q = x2) := Lib.hid ⟨hx1, hx2⟩
      rw [hx1] at hca
      rw [hx2] at hcb
      clear hx1 hx2
      have HLN : Hid ((tkE es q).length ≤ 100) := Lib.hid (by unfold tkE; rw [List.length_take]; omega)
      go_wp2_with (at_builtin; refine wpl_appE rfl (.tmp 39) (.tmp 45) rfl (tb + 1) v (tkE es q) rfl ((HTN.out.own.alloc _).alloc _) (wr.heap.size + 1) x2 x1 rfl (by simp) (by simp) (by have := HLN.out; omega) (by simp; omega) ?_; intro g' c' w6 hown6 hgr6; rw [← HXX.out.1, ← HXX.out.2] at hown6; obtain ⟨⟨hq1, hq2⟩, hq3⟩ := HTN.out.step (by rw [HL.out]; exact hlk) hown6 hgr6; (have HQ3 := Lib.hid hq3); clear hown6 hgr6 hq3 hb1 hbf)
      go_roundw
      case rel => exact ⟨q + 1, by omega, by go_num, Lib.hid ⟨_, HQ3.out⟩⟩
      case measure => simp [intOf]; omega
    · obtain rfl : q = m := by omega
      obtain ⟨Av, cv, rfl⟩ := HTN.out.own.shape
      have HLT : Hid (tkE es q = turnE es) := Lib.hid (List.take_of_length_le (by rw [turnE_len, HL.out]; omega))
      have HRT0 : Hid (RdE wr wr.heap.size Av (tkE es q).length (turnE es)) := Lib.hid (by
        have h := HTN.out.own.rd (m := (tkE es q).length) rfl
        rw [← HLT.out]; exact h)
      obtain ⟨Lq, hLq⟩ : ∃ Lq, (tkE es q).length = Lq := ⟨_, rfl⟩
      have HLq : Hid (Lq = q) := Lib.hid (by rw [← hLq, HLT.out, turnE_len, HL.out])
      rw [hLq] at HRT0 hb1
      have hlq2 : (tkE es q).length = Lq := hLq
      obtain ⟨X, hX⟩ : ∃ X, wr.heap.size = X := ⟨_, rfl⟩
      have HXS := Lib.hid hX
      have g0 := HTN.out.o0
      have g1 := HTN.out.o1
      rw [Hk.out] at g0 g1
      rw [hX] at HRT0 hlt
      have HKX : Hid (k < X ∧ tb < X ∧ k < tb) := Lib.hid ⟨by rw [Hk.out] at hlw; omega, hlt, by rw [Hk.out] at hlw; exact hlw⟩
      have HAT : Hid (∀ w', Below X wr w' → Below k w w' ∧ w'.cell? ⟨k, 0, none⟩ = some (.int .i64 n) ∧ w'.cell? ⟨k, 1, none⟩ = some (.slice A q c) ∧ w'.cell? ⟨tb, 0, none⟩ = some (.int .i64 n) ∧ w'.cell? ⟨tb, 1, none⟩ = some (.slice Av Lq cv) ∧ RdE w' w.heap.size A q es ∧ RdE w' X Av Lq (turnE es) ∧ w.heap.size ≤ w'.heap.size ∧ X ≤ w'.heap.size) := Lib.hid (fun w' hb => by
        have hbk : Below k w w' := by rw [← Hk.out]; exact HTN.out.bel.trans (hb.mono (by rw [Hk.out]; have := HKX.out; omega))
        refine ⟨hbk, (hb.cell (p := ⟨k, 0, none⟩) HKX.out.1).trans g0, (hb.cell (p := ⟨k, 1, none⟩) HKX.out.1).trans g1, (hb.cell (p := ⟨tb, 0, none⟩) HKX.out.2.1).trans hb0, (hb.cell (p := ⟨tb, 1, none⟩) HKX.out.2.1).trans hb1, HTN.out.rd.below (hb.mono (by rw [Hk.out]; have := HKX.out; omega)), HRT0.out.below hb, hbk.size, ?_⟩
        have := hb.size; rw [HXS.out] at this; exact this)
      clear hb0 hb1 hbf hlt hlw g0 g1 hX
      obtain ⟨hbk, g0, g1, t0, t1, hrd, hrt, hs1, hs2⟩ := HAT.out wr (Below.refl _ _)
      clear hLq hlq2 t0 t1 hrt hbk
      have HAL := Lib.hid (all_bad (c := c) hrd hr hm0 hs1)
      go_wp2_with fail
      refine HAL.out.mono ?_
      rintro e W7 ⟨rfl, hb⟩
      clear HAL g0 g1
      try clear t0 t1
      have HB7 : Hid (Below X wr W7) := Lib.hid ((Below.refl X wr).trans (hb.mono hs2))
      have HO7 := Lib.hid hb
      clear hb hrd hs1 hs2
      try clear hrt
      obtain ⟨hbk, g0, g1, t0, t1, hrd, hrt, hs1, hs2⟩ := HAT.out W7 HB7.out
      have HBK7 := Lib.hid hbk
      clear hbk
      clear g0 g1
      have HAL := Lib.hid (all_bad (c := cv) hrt (graphR_turn hr) (by have := HLq.out; omega) hs2)
      go_wp2_with fail
      refine HAL.out.mono ?_
      rintro e W8 ⟨rfl, hb⟩
      clear HAL
      try clear t0 t1
      have HB8 : Hid (Below X wr W8) := Lib.hid ((HB7.out).trans (hb.mono hs2))
      have HO8 := Lib.hid hb
      clear hb hrd hs1 hs2
      try clear hrt
      obtain ⟨hbk, g0, g1, t0, t1, hrd, hrt, hs1, hs2⟩ := HAT.out W8 HB8.out
      have HBK8 := Lib.hid hbk
      clear hbk
      go_wp2
      go_ret
      exact ⟨rfl, by rw [Hk.out]; exact HBK8.out⟩
set_option maxHeartbeats 8000000 in
theorem law_turned_circ {w : World} {m c : Nat} {N : Nat} {A : Option Addr} {g : List (Nat × Nat)} (hx : RdG w w.heap.size A m g) (hi : InN N g) (hn : N ≤ 10) (hm : m ≤ 60) (hG : ¬ Goes (befG g) N N) (hT : Tz w) (h0 : 0 < w.heap.size) :
    Calls Tryd.prog 10 #[.agg #[.int .i64 (N : Int), .slice A m c]] w fun e w' => e = .returned (.bool true) ∧ Below w.heap.size w w' := by
  have hm0 : m ≤ 9223372036854775807 := by omega
  have HI := Lib.hid hi
  have HG := Lib.hid hG
  obtain ⟨k, hk⟩ : ∃ k, w.heap.size = k := ⟨_, rfl⟩
  have Hk := Lib.hid hk
  obtain ⟨W0, hW0⟩ : ∃ W0, w.alloc (.cells #[.int .i64 (N : Int), .slice A m c] 24) = W0 := ⟨_, rfl⟩
  have hb0 : Below k w W0 := by rw [← hW0, ← hk]; exact (Below.refl _ w).alloc (Nat.le_refl _) _
  have hz0 : W0.heap.size = k + 1 := by rw [← hW0, World.size_alloc, hk]
  have hh0 : W0.heap[k]? = some (.cells #[.int .i64 (N : Int), .slice A m c] 24 (0, 0)) := by rw [← hW0, ← hk]; exact World.alloc_heap_new _ _
  have HB0 := Lib.hid hb0
  have HZ0 := Lib.hid hz0
  have HH0 := Lib.hid hh0
  have HX := Lib.hid hx
  have HAN := Lib.hid (anchor_any W0 (hT.below hb0 (by omega)) (by omega))
  have HW0 := Lib.hid hW0
  have HT0 : Hid (Tz w) := Lib.hid hT
  clear hx hT hb0 hz0 hh0 hW0
  go_enter Tryd.func10, Tryd.ntmps10
  go_wp2_with fail
  rw [HW0.out]
  refine HAN.out.mono ?_
  rintro e W1 ⟨rfl, hb⟩
  clear HAN
  have HB1 : Hid (Below k w W1) := Lib.hid (HB0.out.trans (hb.mono (by rw [HZ0.out]; omega)))
  have HZ1 : Hid (k + 1 ≤ W1.heap.size) := Lib.hid (by have := hb.size; rw [HZ0.out] at this; exact this)
  have HH1 : Hid (W1.heap[k]? = some (.cells #[.int .i64 (N : Int), .slice A m c] 24 (0, 0))) := Lib.hid ((hb.block k (by rw [HZ0.out]; omega)).trans HH0.out)
  have hg := HH1.out
  have hc0 : W1.cell? ⟨k, 0, none⟩ = some (.int .i64 (N : Int)) := by simp [World.cell?, hg]
  have hc1 : W1.cell? ⟨k, 1, none⟩ = some (.slice A m c) := by simp [World.cell?, hg]
  have HPL := Lib.hid (plain_any (c := c) (z := (N : Int)) (HX.out.below (B := w.heap.size) (by rw [Hk.out]; exact HB1.out)) (by rw [Hk.out]; have := HZ1.out; omega) hm0 true ⟨fun _ => ⟨hm, .inl (by omega)⟩, fun _ => rfl⟩)
  clear hb hg
  go_wp2_with fail
  refine HPL.out.mono ?_
  rintro e W2 ⟨rfl, hb⟩
  clear HPL hc0 hc1
  obtain ⟨p2, hp2⟩ : ∃ p2, W2.heap.size = p2 := ⟨_, rfl⟩
  obtain ⟨W3, hW3⟩ : ∃ W3, W2.alloc (.cells #[.int .i64 (N : Int), .slice A m c] 26) = W3 := ⟨_, rfl⟩
  have hkp : k < p2 := by rw [← hp2]; exact Nat.lt_of_lt_of_le (show k < W1.heap.size by have := HZ1.out; omega) hb.size
  have HKP := Lib.hid hkp
  have HB3 : Hid (Below k w W3) := Lib.hid (by rw [← hW3]; exact (HB1.out.trans (hb.mono (by have := HZ1.out; omega))).alloc (by omega) _)
  have HZ3 : Hid (p2 + 1 ≤ W3.heap.size) := Lib.hid (by rw [← hW3, World.size_alloc, hp2]; omega)
  have HG3 : Hid (W3.heap[k]? = some (.cells #[.int .i64 (N : Int), .slice A m c] 24 (0, 0))) := Lib.hid (by rw [← hW3, Below.heap_alloc _ _ _ (by omega)]; exact (hb.block k (by have := HZ1.out; omega)).trans HH1.out)
  have HP3 : Hid (W3.heap[p2]? = some (.cells #[.int .i64 (N : Int), .slice A m c] 26 (0, 0))) := Lib.hid (by rw [← hW3, ← hp2]; exact World.alloc_heap_new _ _)
  have HW3 := Lib.hid hW3
  clear hb hW3 hkp
  have hg := HG3.out
  have g0 : W3.cell? ⟨k, 0, none⟩ = some (.int .i64 (N : Int)) := by simp [World.cell?, hg]
  have g1 : W3.cell? ⟨k, 1, none⟩ = some (.slice A m c) := by simp [World.cell?, hg]
  clear hg
  obtain ⟨tb, htb⟩ : ∃ tb, W3.heap.size = tb := ⟨_, rfl⟩
  obtain ⟨W6, hW6⟩ : ∃ W6, W3.alloc (.cells #[.int .i64 (N : Int), .slice none 0 0] 24) = W6 := ⟨_, rfl⟩
  have hkt : k < tb := by rw [← htb]; have := HZ3.out; have := HKP.out; omega
  have HTN : Hid (TnE W6 w w.heap.size tb (N : Int) m c A (castE g) 0 (.slice none 0 0)) := Lib.hid (by
    rw [← hW6, ← htb]
    exact ⟨OwnE.nil_ _ _, by simp, by simp, by simp, (World.cell?_alloc_lt W3 _ ⟨w.heap.size, 0, none⟩ (by rw [Hk.out, htb]; exact hkt)).trans (by rw [Hk.out]; exact g0), (World.cell?_alloc_lt W3 _ ⟨w.heap.size, 1, none⟩ (by rw [Hk.out, htb]; exact hkt)).trans (by rw [Hk.out]; exact g1), RdE.alloc (HX.out.below (B := w.heap.size) (by rw [Hk.out]; exact HB3.out)) (by rw [Hk.out]; have := HZ3.out; have := HKP.out; omega) _, by rw [Hk.out]; exact HB3.out.alloc (by rw [htb]; omega) _, by rw [Hk.out, htb]; exact hkt, Nat.le_refl _, by simp⟩)
  have HW6 := Lib.hid hW6
  have Htb := Lib.hid htb
  have HL : Hid ((castE g).length = m) := Lib.hid HX.out.1
  have g6 := HTN.out.o1
  have hW3 := HW3.out
  rw [Hk.out, ← hW6, ← hW3] at g6
  rw [← hW3] at g0 g1
  have HPT : Hid (p2 + 1 = tb) := Lib.hid (by rw [← htb, ← hW3, World.size_alloc, hp2])
  clear hW6 hkt htb hW3
  go_wp2_with fail
  rw [HW3.out, HW6.out, HPT.out]
  clear g6 HG3 HP3 HH1 HH0 HB3 HB1 HB0 HZ3 HZ1 HZ0 HW3 HW0 g0 g1
  go_loopw [34] (fun i wr => ∃ q : Nat, q ≤ m ∧ i = .int .i64 (q : Int) ∧ Hid (∃ v, TnE wr w w.heap.size tb (N : Int) m c A (castE g) q v)) (fun i _ => m - (intOf i).toNat)
  case atStart => exact ⟨0, by omega, rfl, Lib.hid ⟨_, HTN.out⟩⟩
  case round =>
    clear HTN
    obtain ⟨q, hq, rfl, HV⟩ := hrel
    obtain ⟨v, htn⟩ := HV.out
    clear HV
    have HTN := Lib.hid htn
    clear htn
    have hb0 := HTN.out.b0
    have hb1 := HTN.out.b1
    have hbf := HTN.out.fz
    have hlt := HTN.out.lt
    have hlw := HTN.out.lw
    by_cases hlk : q < m
    · obtain ⟨b, off, rfl, hbb, hca, hcb⟩ := HTN.out.rd.at_ hlk
      obtain ⟨x1, hx1⟩ : ∃ x1, ea (castE g) q = x1 := ⟨_, rfl⟩
      obtain ⟨x2, hx2⟩ : ∃ x2, eb (castE g) q = x2 := ⟨_, rfl⟩
      have HXX : Hid (ea (castE g) q = x1 ∧ eb (castE g) q = x2) := Lib.hid ⟨hx1, hx2⟩
      rw [hx1] at hca
      rw [hx2] at hcb
      clear hx1 hx2
      have HLN : Hid ((tkE (castE g) q).length ≤ 100) := Lib.hid (by unfold tkE; rw [List.length_take]; omega)
      go_wp2_with (at_builtin; refine wpl_appE rfl (.tmp 39) (.tmp 45) rfl (tb + 1) v (tkE (castE g) q) rfl ((HTN.out.own.alloc _).alloc _) (wr.heap.size + 1) x2 x1 rfl (by simp) (by simp) (by have := HLN.out; omega) (by simp; omega) ?_; intro g' c' w6 hown6 hgr6; rw [← HXX.out.1, ← HXX.out.2] at hown6; obtain ⟨⟨hq1, hq2⟩, hq3⟩ := HTN.out.step (by rw [HL.out]; exact hlk) hown6 hgr6; (have HQ3 := Lib.hid hq3); clear hown6 hgr6 hq3 hb1 hbf)
      go_roundw
      case rel => exact ⟨q + 1, by omega, by go_num, Lib.hid ⟨_, HQ3.out⟩⟩
      case measure => simp [intOf]; omega
    · obtain rfl : q = m := by omega
      obtain ⟨Av, cv, rfl⟩ := HTN.out.own.shape
      have HLT : Hid (tkE (castE g) q = turnE (castE g)) := Lib.hid (List.take_of_length_le (by rw [turnE_len, HL.out]; omega))
      have HRT0 : Hid (RdE wr wr.heap.size Av (tkE (castE g) q).length (turnE (castE g))) := Lib.hid (by
        have h := HTN.out.own.rd (m := (tkE (castE g) q).length) rfl
        rw [← HLT.out]; exact h)
      obtain ⟨Lq, hLq⟩ : ∃ Lq, (tkE (castE g) q).length = Lq := ⟨_, rfl⟩
      have HLq : Hid (Lq = q) := Lib.hid (by rw [← hLq, HLT.out, turnE_len, HL.out])
      rw [hLq] at HRT0 hb1
      have hlq2 : (tkE (castE g) q).length = Lq := hLq
      obtain ⟨X, hX⟩ : ∃ X, wr.heap.size = X := ⟨_, rfl⟩
      have HXS := Lib.hid hX
      have g0 := HTN.out.o0
      have g1 := HTN.out.o1
      rw [Hk.out] at g0 g1
      rw [hX] at HRT0 hlt
      have HKX : Hid (k < X ∧ tb < X ∧ k < tb) := Lib.hid ⟨by rw [Hk.out] at hlw; omega, hlt, by rw [Hk.out] at hlw; exact hlw⟩
      have HAT : Hid (∀ w', Below X wr w' → Below k w w' ∧ w'.cell? ⟨k, 0, none⟩ = some (.int .i64 (N : Int)) ∧ w'.cell? ⟨k, 1, none⟩ = some (.slice A q c) ∧ w'.cell? ⟨tb, 0, none⟩ = some (.int .i64 (N : Int)) ∧ w'.cell? ⟨tb, 1, none⟩ = some (.slice Av Lq cv) ∧ RdE w' w.heap.size A q (castE g) ∧ RdE w' X Av Lq (turnE (castE g)) ∧ w.heap.size ≤ w'.heap.size ∧ X ≤ w'.heap.size) := Lib.hid (fun w' hb => by
        have hbk : Below k w w' := by rw [← Hk.out]; exact HTN.out.bel.trans (hb.mono (by rw [Hk.out]; have := HKX.out; omega))
        refine ⟨hbk, (hb.cell (p := ⟨k, 0, none⟩) HKX.out.1).trans g0, (hb.cell (p := ⟨k, 1, none⟩) HKX.out.1).trans g1, (hb.cell (p := ⟨tb, 0, none⟩) HKX.out.2.1).trans hb0, (hb.cell (p := ⟨tb, 1, none⟩) HKX.out.2.1).trans hb1, HTN.out.rd.below (hb.mono (by rw [Hk.out]; have := HKX.out; omega)), HRT0.out.below hb, hbk.size, ?_⟩
        have := hb.size; rw [HXS.out] at this; exact this)
      clear hb0 hb1 hbf hlt hlw g0 g1 hX
      obtain ⟨hbk, g0, g1, t0, t1, hrd, hrt, hs1, hs2⟩ := HAT.out wr (Below.refl _ _)
      clear hLq hlq2 t0 t1 hrt hbk
      have HAL := Lib.hid (all_no (c := c) hrd HI.out (show N ≤ 64 by omega) (show q ≤ 4096 by omega) HG.out hs1)
      go_wp2_with fail
      refine HAL.out.mono ?_
      rintro e W7 ⟨rfl, hb⟩
      clear HAL g0 g1
      try clear t0 t1
      have HB7 : Hid (Below X wr W7) := Lib.hid ((Below.refl X wr).trans (hb.mono hs2))
      have HO7 := Lib.hid hb
      clear hb hrd hs1 hs2
      try clear hrt
      obtain ⟨hbk, g0, g1, t0, t1, hrd, hrt, hs1, hs2⟩ := HAT.out W7 HB7.out
      have HBK7 := Lib.hid hbk
      clear hbk
      clear g0 g1
      rw [turnE_cast] at hrt
      have HAL := Lib.hid (all_no (c := cv) hrt (inN_turn HI.out) (show N ≤ 64 by omega) (by have := HLq.out; omega) (fun h => HG.out ((goes_turn_iff HI.out (by omega)).1 h)) hs2)
      go_wp2_with fail
      refine HAL.out.mono ?_
      rintro e W8 ⟨rfl, hb⟩
      clear HAL
      try clear t0 t1
      have HB8 : Hid (Below X wr W8) := Lib.hid ((HB7.out).trans (hb.mono hs2))
      have HO8 := Lib.hid hb
      clear hb hrd hs1 hs2
      try clear hrt
      obtain ⟨hbk, g0, g1, t0, t1, hrd, hrt, hs1, hs2⟩ := HAT.out W8 HB8.out
      have HBK8 := Lib.hid hbk
      clear hbk
      go_wp2
      go_ret
      exact ⟨rfl, by rw [Hk.out]; exact HBK8.out⟩
set_option maxHeartbeats 8000000 in
theorem law_turned_go {w : World} {m c : Nat} {N : Nat} {A : Option Addr} {g : List (Nat × Nat)} (hS : SortOK 1024) (hx : RdG w w.heap.size A m g) (hi : InN N g) (hn : N ≤ 10) (hm : m ≤ 60) (hG : Goes (befG g) N N) (hT : Tz w) (h0 : 0 < w.heap.size) :
    Calls Tryd.prog 10 #[.agg #[.int .i64 (N : Int), .slice A m c]] w fun e w' => e = .returned (.bool true) ∧ Below w.heap.size w w' := by
  have hm0 : m ≤ 9223372036854775807 := by omega
  have HI := Lib.hid hi
  have HG := Lib.hid hG
  have HSO := Lib.hid hS
  have HN := Lib.hid hn
  have HP1 : Hid ((2 : Nat) ^ N ≤ 1024) := Lib.hid (by
    have h2 : (2 : Nat) ^ N ≤ 2 ^ 10 := Nat.pow_le_pow_right (by omega) hn
    omega)
  obtain ⟨k, hk⟩ : ∃ k, w.heap.size = k := ⟨_, rfl⟩
  have Hk := Lib.hid hk
  obtain ⟨W0, hW0⟩ : ∃ W0, w.alloc (.cells #[.int .i64 (N : Int), .slice A m c] 24) = W0 := ⟨_, rfl⟩
  have hb0 : Below k w W0 := by rw [← hW0, ← hk]; exact (Below.refl _ w).alloc (Nat.le_refl _) _
  have hz0 : W0.heap.size = k + 1 := by rw [← hW0, World.size_alloc, hk]
  have hh0 : W0.heap[k]? = some (.cells #[.int .i64 (N : Int), .slice A m c] 24 (0, 0)) := by rw [← hW0, ← hk]; exact World.alloc_heap_new _ _
  have HB0 := Lib.hid hb0
  have HZ0 := Lib.hid hz0
  have HH0 := Lib.hid hh0
  have HX := Lib.hid hx
  have HAN := Lib.hid (anchor_any W0 (hT.below hb0 (by omega)) (by omega))
  have HW0 := Lib.hid hW0
  have HT0 : Hid (Tz w) := Lib.hid hT
  clear hx hT hb0 hz0 hh0 hW0
  go_enter Tryd.func10, Tryd.ntmps10
  go_wp2_with fail
  rw [HW0.out]
  refine HAN.out.mono ?_
  rintro e W1 ⟨rfl, hb⟩
  clear HAN
  have HB1 : Hid (Below k w W1) := Lib.hid (HB0.out.trans (hb.mono (by rw [HZ0.out]; omega)))
  have HZ1 : Hid (k + 1 ≤ W1.heap.size) := Lib.hid (by have := hb.size; rw [HZ0.out] at this; exact this)
  have HH1 : Hid (W1.heap[k]? = some (.cells #[.int .i64 (N : Int), .slice A m c] 24 (0, 0))) := Lib.hid ((hb.block k (by rw [HZ0.out]; omega)).trans HH0.out)
  have hg := HH1.out
  have hc0 : W1.cell? ⟨k, 0, none⟩ = some (.int .i64 (N : Int)) := by simp [World.cell?, hg]
  have hc1 : W1.cell? ⟨k, 1, none⟩ = some (.slice A m c) := by simp [World.cell?, hg]
  have HPL := Lib.hid (plain_any (c := c) (z := (N : Int)) (HX.out.below (B := w.heap.size) (by rw [Hk.out]; exact HB1.out)) (by rw [Hk.out]; have := HZ1.out; omega) hm0 true ⟨fun _ => ⟨hm, .inl (by omega)⟩, fun _ => rfl⟩)
  clear hb hg
  go_wp2_with fail
  refine HPL.out.mono ?_
  rintro e W2 ⟨rfl, hb⟩
  clear HPL hc0 hc1
  obtain ⟨p2, hp2⟩ : ∃ p2, W2.heap.size = p2 := ⟨_, rfl⟩
  obtain ⟨W3, hW3⟩ : ∃ W3, W2.alloc (.cells #[.int .i64 (N : Int), .slice A m c] 26) = W3 := ⟨_, rfl⟩
  have hkp : k < p2 := by rw [← hp2]; exact Nat.lt_of_lt_of_le (show k < W1.heap.size by have := HZ1.out; omega) hb.size
  have HKP := Lib.hid hkp
  have HB3 : Hid (Below k w W3) := Lib.hid (by rw [← hW3]; exact (HB1.out.trans (hb.mono (by have := HZ1.out; omega))).alloc (by omega) _)
  have HZ3 : Hid (p2 + 1 ≤ W3.heap.size) := Lib.hid (by rw [← hW3, World.size_alloc, hp2]; omega)
  have HG3 : Hid (W3.heap[k]? = some (.cells #[.int .i64 (N : Int), .slice A m c] 24 (0, 0))) := Lib.hid (by rw [← hW3, Below.heap_alloc _ _ _ (by omega)]; exact (hb.block k (by have := HZ1.out; omega)).trans HH1.out)
  have HP3 : Hid (W3.heap[p2]? = some (.cells #[.int .i64 (N : Int), .slice A m c] 26 (0, 0))) := Lib.hid (by rw [← hW3, ← hp2]; exact World.alloc_heap_new _ _)
  have HW3 := Lib.hid hW3
  clear hb hW3 hkp
  have hg := HG3.out
  have g0 : W3.cell? ⟨k, 0, none⟩ = some (.int .i64 (N : Int)) := by simp [World.cell?, hg]
  have g1 : W3.cell? ⟨k, 1, none⟩ = some (.slice A m c) := by simp [World.cell?, hg]
  clear hg
  obtain ⟨tb, htb⟩ : ∃ tb, W3.heap.size = tb := ⟨_, rfl⟩
  obtain ⟨W6, hW6⟩ : ∃ W6, W3.alloc (.cells #[.int .i64 (N : Int), .slice none 0 0] 24) = W6 := ⟨_, rfl⟩
  have hkt : k < tb := by rw [← htb]; have := HZ3.out; have := HKP.out; omega
  have HTN : Hid (TnE W6 w w.heap.size tb (N : Int) m c A (castE g) 0 (.slice none 0 0)) := Lib.hid (by
    rw [← hW6, ← htb]
    exact ⟨OwnE.nil_ _ _, by simp, by simp, by simp, (World.cell?_alloc_lt W3 _ ⟨w.heap.size, 0, none⟩ (by rw [Hk.out, htb]; exact hkt)).trans (by rw [Hk.out]; exact g0), (World.cell?_alloc_lt W3 _ ⟨w.heap.size, 1, none⟩ (by rw [Hk.out, htb]; exact hkt)).trans (by rw [Hk.out]; exact g1), RdE.alloc (HX.out.below (B := w.heap.size) (by rw [Hk.out]; exact HB3.out)) (by rw [Hk.out]; have := HZ3.out; have := HKP.out; omega) _, by rw [Hk.out]; exact HB3.out.alloc (by rw [htb]; omega) _, by rw [Hk.out, htb]; exact hkt, Nat.le_refl _, by simp⟩)
  have HW6 := Lib.hid hW6
  have Htb := Lib.hid htb
  have HL : Hid ((castE g).length = m) := Lib.hid HX.out.1
  have g6 := HTN.out.o1
  have hW3 := HW3.out
  rw [Hk.out, ← hW6, ← hW3] at g6
  rw [← hW3] at g0 g1
  have HPT : Hid (p2 + 1 = tb) := Lib.hid (by rw [← htb, ← hW3, World.size_alloc, hp2])
  clear hW6 hkt htb hW3
  go_wp2_with fail
  rw [HW3.out, HW6.out, HPT.out]
  clear g6 HG3 HP3 HH1 HH0 HB3 HB1 HB0 HZ3 HZ1 HZ0 HW3 HW0 g0 g1
  go_loopw [34] (fun i wr => ∃ q : Nat, q ≤ m ∧ i = .int .i64 (q : Int) ∧ Hid (∃ v, TnE wr w w.heap.size tb (N : Int) m c A (castE g) q v)) (fun i _ => m - (intOf i).toNat)
  case atStart => exact ⟨0, by omega, rfl, Lib.hid ⟨_, HTN.out⟩⟩
  case round =>
    clear HTN
    obtain ⟨q, hq, rfl, HV⟩ := hrel
    obtain ⟨v, htn⟩ := HV.out
    clear HV
    have HTN := Lib.hid htn
    clear htn
    have hb0 := HTN.out.b0
    have hb1 := HTN.out.b1
    have hbf := HTN.out.fz
    have hlt := HTN.out.lt
    have hlw := HTN.out.lw
    by_cases hlk : q < m
    · obtain ⟨b, off, rfl, hbb, hca, hcb⟩ := HTN.out.rd.at_ hlk
      obtain ⟨x1, hx1⟩ : ∃ x1, ea (castE g) q = x1 := ⟨_, rfl⟩
      obtain ⟨x2, hx2⟩ : ∃ x2, eb (castE g) q = x2 := ⟨_, rfl⟩
      have HXX : Hid (ea (castE g) q = x1 ∧ eb (castE g) q = x2) := Lib.hid ⟨hx1, hx2⟩
      rw [hx1] at hca
      rw [hx2] at hcb
      clear hx1 hx2
      have HLN : Hid ((tkE (castE g) q).length ≤ 100) := Lib.hid (by unfold tkE; rw [List.length_take]; omega)
      go_wp2_with (at_builtin; refine wpl_appE rfl (.tmp 39) (.tmp 45) rfl (tb + 1) v (tkE (castE g) q) rfl ((HTN.out.own.alloc _).alloc _) (wr.heap.size + 1) x2 x1 rfl (by simp) (by simp) (by have := HLN.out; omega) (by simp; omega) ?_; intro g' c' w6 hown6 hgr6; rw [← HXX.out.1, ← HXX.out.2] at hown6; obtain ⟨⟨hq1, hq2⟩, hq3⟩ := HTN.out.step (by rw [HL.out]; exact hlk) hown6 hgr6; (have HQ3 := Lib.hid hq3); clear hown6 hgr6 hq3 hb1 hbf)
      go_roundw
      case rel => exact ⟨q + 1, by omega, by go_num, Lib.hid ⟨_, HQ3.out⟩⟩
      case measure => simp [intOf]; omega
    · obtain rfl : q = m := by omega
      obtain ⟨Av, cv, rfl⟩ := HTN.out.own.shape
      have HLT : Hid (tkE (castE g) q = turnE (castE g)) := Lib.hid (List.take_of_length_le (by rw [turnE_len, HL.out]; omega))
      have HRT0 : Hid (RdE wr wr.heap.size Av (tkE (castE g) q).length (turnE (castE g))) := Lib.hid (by
        have h := HTN.out.own.rd (m := (tkE (castE g) q).length) rfl
        rw [← HLT.out]; exact h)
      obtain ⟨Lq, hLq⟩ : ∃ Lq, (tkE (castE g) q).length = Lq := ⟨_, rfl⟩
      have HLq : Hid (Lq = q) := Lib.hid (by rw [← hLq, HLT.out, turnE_len, HL.out])
      rw [hLq] at HRT0 hb1
      have hlq2 : (tkE (castE g) q).length = Lq := hLq
      obtain ⟨X, hX⟩ : ∃ X, wr.heap.size = X := ⟨_, rfl⟩
      have HXS := Lib.hid hX
      have g0 := HTN.out.o0
      have g1 := HTN.out.o1
      rw [Hk.out] at g0 g1
      rw [hX] at HRT0 hlt
      have HKX : Hid (k < X ∧ tb < X ∧ k < tb) := Lib.hid ⟨by rw [Hk.out] at hlw; omega, hlt, by rw [Hk.out] at hlw; exact hlw⟩
      have HAT : Hid (∀ w', Below X wr w' → Below k w w' ∧ w'.cell? ⟨k, 0, none⟩ = some (.int .i64 (N : Int)) ∧ w'.cell? ⟨k, 1, none⟩ = some (.slice A q c) ∧ w'.cell? ⟨tb, 0, none⟩ = some (.int .i64 (N : Int)) ∧ w'.cell? ⟨tb, 1, none⟩ = some (.slice Av Lq cv) ∧ RdE w' w.heap.size A q (castE g) ∧ RdE w' X Av Lq (turnE (castE g)) ∧ w.heap.size ≤ w'.heap.size ∧ X ≤ w'.heap.size) := Lib.hid (fun w' hb => by
        have hbk : Below k w w' := by rw [← Hk.out]; exact HTN.out.bel.trans (hb.mono (by rw [Hk.out]; have := HKX.out; omega))
        refine ⟨hbk, (hb.cell (p := ⟨k, 0, none⟩) HKX.out.1).trans g0, (hb.cell (p := ⟨k, 1, none⟩) HKX.out.1).trans g1, (hb.cell (p := ⟨tb, 0, none⟩) HKX.out.2.1).trans hb0, (hb.cell (p := ⟨tb, 1, none⟩) HKX.out.2.1).trans hb1, HTN.out.rd.below (hb.mono (by rw [Hk.out]; have := HKX.out; omega)), HRT0.out.below hb, hbk.size, ?_⟩
        have := hb.size; rw [HXS.out] at this; exact this)
      clear hb0 hb1 hbf hlt hlw g0 g1 hX
      obtain ⟨hbk, g0, g1, t0, t1, hrd, hrt, hs1, hs2⟩ := HAT.out wr (Below.refl _ _)
      clear hLq hlq2 t0 t1 hrt hbk
      have HBK0 := Lib.hid (HAT.out wr (Below.refl _ _)).1
      obtain ⟨L1, hL1⟩ : ∃ L1, clN N (closedB g) = L1 := ⟨_, rfl⟩
      obtain ⟨L2, hL2⟩ : ∃ L2, clN N (closedB (turnG g)) = L2 := ⟨_, rfl⟩
      obtain ⟨LN, hLN⟩ : ∃ LN, L1.length = LN := ⟨_, rfl⟩
      have hLN2 : L2.length = LN := by rw [← hL2, clN_turn_len HI.out, hL1, hLN]
      have HLL : Hid (LN ≤ 1024) := Lib.hid (by
        have := List.length_filter_le (closedB g) (List.range (2 ^ N))
        rw [List.length_range] at this
        rw [← hLN, ← hL1]
        exact Nat.le_trans this HP1.out)
      have HTA : Hid (∀ i, i < LN → L2.getD (LN - 1 - i) 0 = cpl N (L1.getD i 0)) := Lib.hid (fun i h => by
        have h2 := clN_turn_at (n := N) (i := i) HI.out (by rw [hL1, hLN]; exact h)
        rw [hL1, hL2, hLN] at h2
        exact h2)
      have HME : Hid (∀ i, i < LN → L1.getD i 0 < 2 ^ N) := Lib.hid (fun i h => by
        have h2 : L1.getD i 0 ∈ L1 := by
          rw [List.getD_eq_getElem?_getD, List.getElem?_eq_getElem (by rw [hLN]; exact h)]
          exact List.getElem_mem _
        have h3 : L1.getD i 0 ∈ clN N (closedB g) := by rw [hL1]; exact h2
        exact (clN_mem.1 h3).1)
      have HAL := Lib.hid (all_any HSO.out (c := c) hrd HI.out HN.out (show q ≤ 4096 by omega) hs1 (HT0.out.below (B := k) HBK0.out (by rw [← Hk.out]; exact h0)) (by have := HKX.out; omega) HG.out (by rw [hL1, hLN]; exact HLL.out))
      rw [hL1, hLN] at HAL
      go_wp2_with fail
      refine HAL.out.mono ?_
      rintro e W7 ⟨⟨bl1, cp1, rfl, hle, hcl⟩, hb⟩
      have HC1 := Lib.hid hcl
      clear hle hcl
      clear HAL g0 g1
      try clear t0 t1
      have HB7 : Hid (Below X wr W7) := Lib.hid ((Below.refl X wr).trans (hb.mono hs2))
      have HO7 := Lib.hid hb
      clear hb hrd hs1 hs2
      try clear hrt
      obtain ⟨hbk, g0, g1, t0, t1, hrd, hrt, hs1, hs2⟩ := HAT.out W7 HB7.out
      have HBK7 := Lib.hid hbk
      clear hbk
      clear g0 g1
      rw [turnE_cast] at hrt
      have HAL := Lib.hid (all_any HSO.out (c := cv) hrt (inN_turn HI.out) HN.out (show Lq ≤ 4096 by have := HLq.out; omega) hs2 (HT0.out.below (B := k) HBK7.out (by rw [← Hk.out]; exact h0)) (by have := HKX.out; omega) (goes_turn HI.out (by omega) HG.out) (by rw [hL2, hLN2]; exact HLL.out))
      rw [hL2, hLN2] at HAL
      go_wp2_with fail
      refine HAL.out.mono ?_
      rintro e W8 ⟨⟨bl2, cp2, rfl, hle, hcl⟩, hb⟩
      have HC2 := Lib.hid hcl
      clear hle hcl
      clear HAL
      try clear t0 t1
      have HB8 : Hid (Below X wr W8) := Lib.hid ((HB7.out).trans (hb.mono hs2))
      have HO8 := Lib.hid hb
      clear hb hrd hs1 hs2
      try clear hrt
      obtain ⟨hbk, g0, g1, t0, t1, hrd, hrt, hs1, hs2⟩ := HAT.out W8 HB8.out
      have HBK8 := Lib.hid hbk
      clear hbk
      clear hL1 hL2 hLN hLN2
      have HCL : Hid (∀ j, j < LN → W8.cell? ⟨bl1, j, none⟩ = some (.int .u64 ((L1.getD j 0 : Nat) : Int))) := Lib.hid (fun j hj => ((HO8.out.cell (p := ⟨bl1, j, none⟩) (block_lt_of_cell (HC1.out j hj))).trans (HC1.out j hj)))
      obtain ⟨M, hM⟩ : ∃ M, (2 : Nat) ^ N = M := ⟨_, rfl⟩
      have hP0 := Nat.two_pow_pos N
      rw [hM] at hP0
      have hMw : IntKind.u64.wrap ((2 : Int) ^ N) = (M : Int) := by
        have e2 : ((2 : Int) ^ N) = ((2 ^ N : Nat) : Int) := by simp
        have := HP1.out
        rw [e2, hM, IntKind.wrap_u64]
        omega
      obtain ⟨A1, hA1⟩ : ∃ A1, M - 1 = A1 := ⟨_, rfl⟩
      have hM1 : IntKind.u64.wrap ((M : Int) - 1) = (A1 : Int) := by rw [IntKind.wrap_u64]; have := HP1.out; omega
      have HMM : Hid (2 ^ N = M ∧ M - 1 = A1 ∧ 0 < M ∧ M ≤ 1024) := Lib.hid ⟨hM, hA1, hP0, by rw [← hM]; exact HP1.out⟩
      have hlnn : ((LN : Int) != (LN : Int)) = false := by simp
      have HNE := Lib.hid hn
      clear hM hP0 hA1 t0 t1
      go_wp2_with fail
      clear hMw hM1 hlnn g0 g1
      obtain ⟨wt, hwt⟩ : ∃ x, x = wr := ⟨_, rfl⟩
      subst hwt
      go_loopw [77] (fun v wr => ∃ i : Nat, i ≤ LN ∧ v = .int .i64 (i : Int) ∧ wr = W8) (fun v _ => LN - (intOf v).toNat)
      case atStart => exact ⟨0, by omega, rfl, rfl⟩
      case round =>
        obtain ⟨i, hi2, rfl, rfl⟩ := hrel
        by_cases hiL : i < LN
        · have hdi : decide ((i : Int) < (LN : Int)) = true := decide_eq_true (by omega)
          obtain ⟨s, hs⟩ : ∃ s, L1.getD i 0 = s := ⟨_, rfl⟩
          have hsM : s < 2 ^ N := by rw [← hs]; exact HME.out i hiL
          obtain ⟨x, hx⟩ : ∃ x, cpl N s = x := ⟨_, rfl⟩
          obtain ⟨r, hr⟩ : ∃ r, LN - 1 - i = r := ⟨_, rfl⟩
          obtain ⟨LM, hLM⟩ : ∃ LM, LN - 1 = LM := ⟨_, rfl⟩
          have c1 : wr.cell? ⟨bl1, i, none⟩ = some (.int .u64 (s : Int)) := by rw [HCL.out i hiL, hs]
          have c2 : wr.cell? ⟨bl2, r, none⟩ = some (.int .u64 (x : Int)) := by rw [HC2.out r (by omega), ← hr, HTA.out i hiL, hs, hx]
          have hl1 : (i : Int) < (LN : Int) := by omega
          have hl2 : (r : Int) < (LN : Int) := by omega
          have e1 : IntKind.i64.wrap ((LN : Int) - 1) = (LM : Int) := by rw [IntWalk.i64_in _ (by have := HLL.out; omega)]; omega
          have e2 : IntKind.i64.wrap ((LM : Int) - (i : Int)) = (r : Int) := by rw [IntWalk.i64_in _ (by have := HLL.out; omega)]; omega
          have e3 : IntKind.i64.wrap ((i : Int) + 1) = ((i + 1 : Nat) : Int) := by rw [IntWalk.i64_in _ (by have := HLL.out; omega)]; omega
          have e4 : bits BinOp.andNot IntKind.u64 (A1 : Int) (s : Int) = (x : Int) := by
            obtain ⟨m1, m2, m3, m4⟩ := HMM.out
            rw [andn_spell (show A1 < 18446744073709551616 by omega) (show s < 18446744073709551616 by rw [m1] at hsM; omega), ← hx, ← m2, ← m1, cpl_andn (by omega) hsM]
          have e5 : ((x : Int) != (x : Int)) = false := by simp
          clear hs hsM hx hr hLM
          go_wp2
          go_roundw
          case rel => exact ⟨i + 1, by omega, by go_num, by simp⟩
          case measure => simp [intOf]; omega
        · have hdi : decide ((i : Int) < (LN : Int)) = false := decide_eq_false (by omega)
          obtain rfl : i = LN := by omega
          obtain ⟨hbk, g0, g1, t0, t1, hrd, hrt, hs1, hs2⟩ := HAT.out wr HB8.out
          clear t0 t1
          rw [turnE_cast] at hrt
          obtain ⟨V, hV⟩ : ∃ V, wayN (befG g) N (2 ^ N - 1) = V := ⟨_, rfl⟩
          have hV2 : wayN (befG (turnG g)) N (2 ^ N - 1) = V := by rw [ways_turn HI.out (by omega) HG.out]; exact hV
          have HLT2 : Hid ((clN N (closedB g)).length ≤ 1024 ∧ (clN N (closedB (turnG g))).length ≤ 1024) := Lib.hid ⟨by
            have := List.length_filter_le (closedB g) (List.range (2 ^ N))
            rw [List.length_range] at this
            exact Nat.le_trans this HP1.out, by
            have := List.length_filter_le (closedB (turnG g)) (List.range (2 ^ N))
            rw [List.length_range] at this
            exact Nat.le_trans this HP1.out⟩
          have HAL := Lib.hid (ways_any HSO.out (c := c) hrd HI.out HN.out (show q ≤ 4096 by omega) hs1 (HT0.out.below (B := k) hbk (by rw [← Hk.out]; exact h0)) (by have := HKX.out; omega) HG.out HLT2.out.1)
          rw [hV] at HAL
          clear hbk
          go_wp2_with fail
          refine HAL.out.mono ?_
          rintro e W9 ⟨rfl, hb⟩
          clear HAL g0 g1
          try clear t0 t1
          have HB9 : Hid (Below X wt W9) := Lib.hid ((HB8.out).trans (hb.mono hs2))
          have HO9 := Lib.hid hb
          clear hb hrd hs1 hs2
          try clear hrt
          obtain ⟨hbk, g0, g1, t0, t1, hrd, hrt, hs1, hs2⟩ := HAT.out W9 HB9.out
          have HBK9 := Lib.hid hbk
          clear hbk
          clear g0 g1
          rw [turnE_cast] at hrt
          have HAL := Lib.hid (ways_any HSO.out (c := cv) hrt (inN_turn HI.out) HN.out (show Lq ≤ 4096 by have := HLq.out; omega) hs2 (HT0.out.below (B := k) HBK9.out (by rw [← Hk.out]; exact h0)) (by have := HKX.out; omega) (goes_turn HI.out (by omega) HG.out) HLT2.out.2)
          rw [hV2] at HAL
          clear hV hV2
          go_wp2_with fail
          refine HAL.out.mono ?_
          rintro e W10 ⟨rfl, hb⟩
          clear HAL
          try clear t0 t1
          have HB10 : Hid (Below X wt W10) := Lib.hid ((HB9.out).trans (hb.mono hs2))
          have HO10 := Lib.hid hb
          clear hb hrd hs1 hs2
          try clear hrt
          obtain ⟨hbk, g0, g1, t0, t1, hrd, hrt, hs1, hs2⟩ := HAT.out W10 HB10.out
          have HBK10 := Lib.hid hbk
          clear hbk
          clear t0 t1 g1
          have hvv : ((V : Int) == (V : Int)) = true := by simp
          by_cases hN0 : N = 0
          · subst hN0
            go_wp2
            go_ret
            exact ⟨by simp, by rw [Hk.out]; exact HBK10.out⟩
          · have hn0 : ((N : Int) == 0) = false := beq_eq_false_iff_ne.2 (by omega)
            have hb1 : bt A1 0 = true := by
              obtain ⟨m1, m2, m3, m4⟩ := HMM.out
              rw [← m2, ← m1, bt_full]
              exact decide_eq_true (by omega)
            have HIN := Lib.hid (in_any (s := A1) (v := 0) (w := W10) (show A1 < 18446744073709551616 by have := HMM.out; omega) (by omega))
            rw [hb1] at HIN
            clear hb1
            go_wp2_with (go_at_call 21; refine HIN.out.mono ?_; rintro e w9 ⟨rfl, rfl⟩)
            go_ret
            exact ⟨by simp, by rw [Hk.out]; exact HBK10.out⟩
theorem law_turned (hS : SortOK 1024) {w : World} {m c : Nat} {n : Int} {A : Option Addr} {es : List (Int × Int)} (hx : RdE w w.heap.size A m es) (hm0 : m ≤ 9223372036854775807) (hT : Tz w) (h0 : 0 < w.heap.size) :
    Calls Tryd.prog 10 #[.agg #[.int .i64 n, .slice A m c]] w fun e w' => e = .returned (.bool true) ∧ Below w.heap.size w w' := by
  by_cases hok : m ≤ 60 ∧ (n ≤ 10 ∨ ¬ GraphR n es)
  · by_cases hr : GraphR n es
    · have hn : n ≤ 10 := hok.2.elim id (fun h => (h hr).elim)
      obtain ⟨N, g, rfl, rfl, hi, _, _⟩ := graph_nat hr
      by_cases hG : Goes (befG g) N N
      · exact law_turned_go hS hx hi (by omega) hok.1 hG hT h0
      · exact law_turned_circ hx hi (by omega) hok.1 hG hT h0
    · exact law_turned_wrong hx hm0 hok.1 hr hT h0
  · exact law_turned_skip hx hm0 hok hT h0
end Go.Proofs.YtfcabdgidlnljaaDoor
