/-
  CONTRACT of package lattice: climb (printed by genclimb.py).
-/
import Derived.Test.YtfcabdgidlnljaaDoorLLarg
import Derived.Test.YtfcabdgidlnljaaDoorLPa
import Derived.Test.YtfcabdgidlnljaaDoorLSort
import Derived.Test.YtfcabdgidlnljaaDoorLErr
import Derived.Test.YtfcabdgidlnljaaDoorDThin
import Derived.Test.YtfcabdgidlnljaaDoorLRow
import Derived.Test.YtfcabdgidlnljaaDoorLEdges
namespace Go.Proofs.YtfcabdgidlnljaaDoor
open Go.RowKit
open Go.Maps (Keyed)
open DiP
set_option linter.unusedVariables false
set_option linter.unusedSimpArgs false
set_option maxRecDepth 100000
/-- 'm[k] = v' where the map is laid by a literal. -/
theorem wpl_insert {H : Type} {P : Program} (w : World) {ops : Array Oper} {rest : List Oper} {o : Oper} {a : Act} {Q : Exit → Act → World → Prop}
    (hg : o.guard = none) (m x v : Operand) (t : TypeId) (hop : o.op = Op.insert t m x v)
    (k e : TypeId) (K : Keyed P k) (ht : P.underlying t = some (.map k e)) (R : Value → Option (DataW H × List MemPlace)) (b n : Nat) (D : DataW H)
    (hm : a.eval m = .map (some b)) (hown : w.ownsMap P k R b n D) (hn : n < maxLen) (key val : Value) (kl : Lit) (hx : a.eval x = key) (hv : a.eval v = val) (hkey : keyOf P k key = some kl)
    (d : DataW H) (ps : List MemPlace) (hval : R val = some (d, ps))
    (hK : ∀ w', w'.ownsMap P k R b (n + 1) (D.put kl d) → w.grownBy w' (some b) → wpList P ops Q rest (a.put o.dst undef) w') :
    wpList P ops Q (o :: rest) a w := by
  refine wpList_plain hg fun K' hK' => ?_
  obtain ⟨w', hrun, r1, r2⟩ := hown.update K ht hn hkey hval
  unfold Oper.wp
  simp [execOp, hop, hm, hx, hv, hrun, Result.andThen]
  exact hK' _ _ (hK w' r1 r2)
theorem OwnS.one (w : World) {base u : Nat} (h : base ≤ w.heap.size) : OwnS (w.alloc (.cells #[.int .u64 (u : Int)] 35)) base (.slice (some ⟨w.heap.size, 0, none⟩) 1 1) [u] :=
  ⟨rfl, .inr ⟨w.heap.size, 1, #[.int .u64 (u : Int)], rfl, h, World.alloc_heap_new _ _, Nat.le_refl _, by unfold maxLen; omega, rfl, rfl⟩⟩
/-- A map of one's own is no row. -/
theorem OwnS.not_map {H : Type} {w : World} {base b K : Nat} {v : Value} {l : List Nat} {D : DataW H} (h : OwnS w base v l) (hm : OwnM w b K D) : some b ≠ v.ownBlock := fun e => by
  obtain ⟨_, cur, hc⟩ := h.block e.symm
  obtain ⟨es, clock, hb, _⟩ := hm
  rw [hb] at hc
  cases hc
/-- Where the climb stands behind k levels. -/
structure ClW (b1 n k : Nat) (W2 wr : World) (g' : List (Nat × Nat)) (v8 v9 : Value) (zs : List Nat) : Prop where
  bel : Below (b1 + 1) W2 wr
  lvl : ∃ lb K, ∃ D : DataW Unit, v8 = .map (some lb) ∧ b1 + 1 ≤ lb ∧ OwnM wr lb K D ∧ LvD D (lvF (befG g') n k)
  own : OwnS wr (b1 + 1) v9 zs
  nd : zs.Nodup
  mem : ∀ s, s ∈ zs ↔ inS n s ∧ cnt s n ≤ k ∧ Cl g' s
set_option maxHeartbeats 8000000 in
theorem climb_any {L : Nat} (hS : SortOK L) {w : World} {B m c n : Nat} {A : Option Addr} {g : List (Nat × Nat)} (hx : RdG w B A m g) (hi : InN n g) (hn : n ≤ 10) (hm : m ≤ 4096) (hB : B ≤ w.heap.size) (hT : Tz w) (h0 : 0 < w.heap.size) (hG : Goes (befG g) n n) (hL : (clN n (closedB g)).length ≤ L) :
    Calls Tryd.prog 24 #[.agg #[.int .i64 (n : Int), .slice A m c]] w fun e w' => (∃ blk cap, e = .returned (.tuple #[.slice (some ⟨blk, 0, none⟩) (clN n (closedB g)).length cap, .int .i64 (wayN (befG g) n (2 ^ n - 1) : Int), .int .i64 0]) ∧ w.heap.size ≤ blk ∧ ∀ j, j < (clN n (closedB g)).length → w'.cell? ⟨blk, j, none⟩ = some (.int .u64 (((clN n (closedB g)).getD j 0 : Nat) : Int))) ∧ Below w.heap.size w w' := by
  have hmm := @run_makeMap Tryd.prog
  have HI := Lib.hid hi
  have HT := Lib.hid hT
  have HG := Lib.hid hG
  have HS := Lib.hid hS
  have HLL := Lib.hid hL
  have HTH := Lib.hid (thin_any (w := w.alloc (.cells #[.int .i64 (n : Int), .slice A m c] 24)) (c := c) (RdE.alloc hx hB _) (by simp; omega) hi (by omega) hm hG)
  obtain ⟨b0, hb0⟩ : ∃ b0, w.heap.size = b0 := ⟨_, rfl⟩
  have Hb0 := Lib.hid hb0
  clear hx hi hT hS hL hB hG hb0
  go_enter Tryd.func24, Tryd.ntmps24
  go_wp2_with fail
  refine HTH.out.mono ?_
  rintro e W1 ⟨hb, A1, c1, rfl, hop⟩
  clear HTH
  obtain ⟨g', hg'⟩ : ∃ g', thnG n g = g' := ⟨_, rfl⟩
  have Hg' := Lib.hid hg'
  obtain ⟨m', hm'⟩ : ∃ m', g'.length = m' := ⟨_, rfl⟩
  rw [hg', hm'] at hop ⊢
  have HM' : Hid (m' ≤ 4096) := Lib.hid (by
    have h := thnK_len n (aftG g) (rchG n g) n
    rw [← hm', ← hg']
    have h2 : n * n ≤ 10 * 10 := Nat.mul_le_mul hn hn
    unfold thnG
    omega)
  have HI' : Hid (InN n g') := Lib.hid (by rw [← hg']; exact inN_thn HI.out (by omega))
  have HG' : Hid (Goes (befG g') n n) := Lib.hid (by rw [← hg']; exact goes_thn HI.out (by omega) HG.out)
  have HRG : Hid (RdG W1 W1.heap.size A1 m' g') := Lib.hid (OwnP.rd hop hm')
  have HB1 : Hid (Below b0 w W1) := Lib.hid (by
    have h := ((Below.refl _ w).alloc (Nat.le_refl _) (.cells #[.int .i64 (n : Int), .slice A m c] 24)).trans (hb.mono (by simp))
    rw [Hb0.out] at h; exact h)
  obtain ⟨hcn, hcs⟩ := (boxed_alloc w (n : Int) A m c 24).below hb (by simp)
  obtain ⟨b1, hb1⟩ : ∃ b1, W1.heap.size = b1 := ⟨_, rfl⟩
  have Hb1 := Lib.hid hb1
  have HL01 : Hid (b0 < b1) := Lib.hid (by have := hb.size; rw [← hb1, ← Hb0.out]; simp at this; omega)
  rw [Hb0.out] at hcn
  rw [hb1] at HRG
  have HCN := Lib.hid hcn
  obtain ⟨W2, hW2⟩ : ∃ W2, W1.alloc (.cells #[.int .i64 (n : Int), .slice A1 m' c1] 24) = W2 := ⟨_, rfl⟩
  have HZ2 : Hid (W2.heap.size = b1 + 1) := Lib.hid (by rw [← hW2, World.size_alloc, hb1])
  have HBX : Hid (W2.heap[b1]? = some (.cells #[.int .i64 (n : Int), .slice A1 m' c1] 24 (0, 0))) := Lib.hid (by rw [← hW2, ← hb1]; exact World.alloc_heap_new _ _)
  have HB12 : Hid (Below b1 W1 W2) := Lib.hid (by rw [← hW2, ← hb1]; exact (Below.refl _ W1).alloc (Nat.le_refl _) _)
  have HOM : Hid (OwnM (H := Unit) (W2.alloc (.map #[] 0)) (b1 + 1) 0 (.map [])) := Lib.hid (by
    have h := World.ownsMap_made (H := Unit) W2 Tryd.prog 35 (plainElem Tryd.prog 3)
    rw [HZ2.out] at h; exact h)
  have HW2 := Lib.hid hW2
  clear hb hop hcs hg' hm' hW2
  rw [Hb0.out]
  go_wp2_with (refine wpl_insert (H := Unit) _ rfl _ _ _ 66 rfl 35 3 keyedU Tryd.underlying66 (plainElem Tryd.prog 3) (b1 + 1) 0 (.map []) rfl (by rw [HW2.out]; exact HOM.out) (by unfold maxLen; omega) _ _ (kU 0) rfl rfl (keyU (by decide)) (.lit (.int .i64 1)) [] (plainElem_int Tryd.underlying3 rfl) ?_; rw [HW2.out]; intro W3 hown3 hgr3; have HB23 : Hid (Below (b1 + 1) W2 W3) := Lib.hid (((Below.refl _ W2).alloc (by rw [HZ2.out]; omega) _).grown hgr3 (by rw [World.size_alloc, HZ2.out]; omega) (fun k e => by injection e; omega)); have hcn4 : (W3.alloc (.cells #[.int .u64 0] 35)).cell? ⟨b0, 0, none⟩ = some (.int .i64 (n : Int)) := ((HB23.out.alloc (by have := HB23.out.size; rw [HZ2.out] at this; exact this) _).cell (p := ⟨b0, 0, none⟩) (show b0 < b1 + 1 by have := HL01.out; omega)).trans ((HB12.out.cell (p := ⟨b0, 0, none⟩) HL01.out).trans HCN.out))
  obtain ⟨W4, hW4⟩ : ∃ W4, W3.alloc (.cells #[.int .u64 0] 35) = W4 := ⟨_, rfl⟩
  have hs3 : b1 + 1 ≤ W3.heap.size := by have := HB23.out.size; rw [HZ2.out] at this; exact this
  have HCW : Hid (ClW b1 n 0 W2 W4 g' (.map (some (b1 + 1))) (.slice (some ⟨W3.heap.size, 0, none⟩) 1 1) [0]) := Lib.hid {
    bel := by rw [← hW4]; exact HB23.out.alloc hs3 _
    lvl := ⟨b1 + 1, _, _, rfl, Nat.le_refl _, by rw [← hW4]; exact hown3.alloc _, by
      have h := (lvD_empty (H := Unit)).put (by exact ⟨[], rfl⟩) 0 1
      exact h⟩
    own := by rw [← hW4]; exact OwnS.one W3 (u := 0) hs3
    nd := by simp
    mem := fun s => by
      have h := lv_has HI'.out (show n ≤ 64 by omega) HG'.out 0 s
      have h2 : (lvF (befG g') n 0 s).isSome = true ↔ s = 0 := by
        unfold lvF
        by_cases e : s = 0
        · rw [if_pos e]; exact ⟨fun _ => e, fun _ => rfl⟩
        · rw [if_neg e]; exact ⟨fun h => (by cases h), fun h => (e h).elim⟩
      rw [List.mem_singleton, ← h2, h]
      exact ⟨fun ⟨a1, a2, a3⟩ => ⟨a1, by omega, a3⟩, fun ⟨a1, a2, a3⟩ => ⟨a1, by omega, a3⟩⟩ }
  obtain ⟨p3, hp3⟩ : ∃ p3, W3.heap.size = p3 := ⟨_, rfl⟩
  rw [hp3] at HCW ⊢
  rw [hW4]
  clear hcn4 hown3 hgr3 hs3 hp3 hW4
  go_loopw [8, 9, 30] (fun v8 v9 v30 wr => ∃ (k : Nat) (zs : List Nat), k ≤ n ∧ v30 = .int .i64 (k : Int) ∧ Hid (ClW b1 n k W2 wr g' v8 v9 zs)) (fun _ _ v _ => n - (intOf v).toNat)
  case atStart => exact ⟨0, [0], Nat.zero_le _, rfl, HCW⟩
  case round =>
    obtain ⟨k, zs, hk, rfl, HC⟩ := hrel
    obtain ⟨wo, hwo⟩ : ∃ x, x = wr := ⟨_, rfl⟩
    subst hwo
    obtain ⟨lb, K, D, rfl, hlb, hown, hD⟩ := HC.out.lvl
    obtain ⟨Av, cv, hv⟩ := HC.out.own.shape
    subst hv
    have HOWN := Lib.hid hown
    have HD := Lib.hid hD
    have HLB := Lib.hid hlb
    clear hown hD hlb
    by_cases hkn : k < n
    · have hdk : decide ((k : Int) < (n : Int)) = true := decide_eq_true (by omega)
      have hsw : b1 + 1 ≤ wo.heap.size := by have := HC.out.bel.size; rw [HZ2.out] at this; exact this
      have HSW := Lib.hid hsw
      have hbx : wo.heap[b1]? = some (.cells #[.int .i64 (n : Int), .slice A1 m' c1] 24 (0, 0)) := (HC.out.bel.block b1 (by omega)).trans HBX.out
      have c70 : wo.cell? ⟨b1, 0, none⟩ = some (.int .i64 (n : Int)) := by simp [World.cell?, hbx]
      have c71 : wo.cell? ⟨b1, 1, none⟩ = some (.slice A1 m' c1) := by simp [World.cell?, hbx]
      have hbw : Below b1 W1 wo := HB12.out.trans (HC.out.bel.mono (Nat.le_succ _))
      have htz : Tz wo := HT.out.below (HB1.out.trans (hbw.mono (Nat.le_of_lt HL01.out))) (by rw [← Hb0.out]; exact h0)
      have hpow : n ^ k ≤ 10000000000 := by
        have h1 : n ^ k ≤ 10 ^ k := Nat.pow_le_pow_left hn k
        have h2 : (10 : Nat) ^ k ≤ 10 ^ 10 := Nat.pow_le_pow_right (by omega) (by omega)
        omega
      have HCL := Lib.hid (larger_any (H := Unit) (c := c1) (HRG.out.below hbw) HI'.out hn HM'.out (by omega) htz (by omega) lb K (n ^ k) D (lvF (befG g') n k) HOWN.out HD.out (fun s h => ((lv_has HI'.out (by omega) HG'.out k s).1 h).1) (fun s x h => lv_le _ _ _ _ _ h) (by omega))
      have hN : (2 : Nat) ^ n ≤ 1024 := by
        have h2 : (2 : Nat) ^ n ≤ 2 ^ 10 := Nat.pow_le_pow_right (by omega) hn
        omega
      have HN := Lib.hid hN
      have hzl : zs.length ≤ 1024 := len_le 1024 HC.out.nd (fun x hx => by
        have h := (inS_iff (show n ≤ 64 by omega)).1 ((HC.out.mem x).1 hx).1
        omega)
      clear hsw hbx hbw htz hpow hN
      go_wp2_with (first
        | (go_at_call 34; refine HCL.out.mono ?_; rintro e W5 ⟨⟨nb, K1, D1, rfl, hown1, hD1, hnb⟩, hb5⟩; clear HCL c70 c71; have HO1 := Lib.hid hown1; have HD1 : Hid (LvD D1 (lvF (befG g') n (k + 1))) := Lib.hid hD1; have HNB := Lib.hid hnb; have HB5 := Lib.hid hb5; have hsz0 := OwnM.size hown1 HD1.out (fun s h => (inS_iff (show n ≤ 64 by omega)).1 ((lv_has HI'.out (by omega) HG'.out (k + 1) s).1 h).1); obtain ⟨sz, hsz⟩ : ∃ sz, Maps.size D1 = sz := ⟨_, rfl⟩; have HSZ := Lib.hid hsz; have hsz1 : sz ≤ 1024 := (by rw [← hsz]; exact Nat.le_trans hsz0 HN.out); clear hown1 hD1 hnb hb5 hsz0 hsz; have hadd : IntKind.i64.wrap ((zs.length : Int) + (sz : Int)) = (zs.length : Int) + (sz : Int) := (IntWalk.i64_in _ (by omega)); have hdd : decide ((65536 : Int) < (zs.length : Int) + (sz : Int)) = false := decide_eq_false (by omega))
        | (at_len; refine wpList_len_own _ rfl _ 66 rfl 35 3 Tryd.underlying66 _ nb K1 D1 rfl HO1.out ?_; rw [HSZ.out])
        | (at_range; refine wpList_range_own _ rfl _ 66 rfl 35 3 keyedU Tryd.underlying66 _ nb K1 D1 rfl HO1.out ?_; intro w0 hrg0 hg0 hs0))
      go_frame
      obtain ⟨p5, hp5⟩ : ∃ p5, W5.heap.size = p5 := ⟨_, rfl⟩
      have HP5 : Hid (b1 + 1 ≤ p5) := Lib.hid (by have := HB5.out.size; have := HSW.out; omega)
      have HR0 : Hid (w0.ranges Tryd.prog 35 (plainElem Tryd.prog 3) nb p5 K1 D1 (Maps.has D1) (Maps.size D1)) := Lib.hid (by rw [← hp5]; exact hrg0)
      have HS0 : Hid (OwnS w0 (b1 + 1) (.slice Av zs.length cv) zs) := Lib.hid ((HC.out.own.kept (belowG HB5.out) (by simp)).kept hg0 (by simp))
      have HB0 : Hid (Below (b1 + 1) W2 w0) := Lib.hid ((HC.out.bel.trans (HB5.out.mono HSW.out)).trans (belG hg0 (by rw [hp5]; exact HP5.out)))
      rw [hp5]
      clear hrg0 hg0 hs0 hp5 hadd hdd hsz1 HB5
      go_loopw [9] (fun v9 wr => ∃ (left : Lit → Bool) (cnt1 : Nat) (zs' : List Nat), Hid (wr.ranges Tryd.prog 35 (plainElem Tryd.prog 3) nb p5 K1 D1 left cnt1) ∧ Hid (OwnS wr (b1 + 1) v9 zs') ∧ Hid (zs'.Nodup) ∧ Hid (∀ s, s ∈ zs' ↔ s ∈ zs ∨ ((lvF (befG g') n (k + 1) s).isSome = true ∧ left (kU s) = false)) ∧ Hid (Below (b1 + 1) W2 wr)) (fun _ wr => wr.rangeLeft nb p5)
      case atStart =>
        refine ⟨_, _, zs, HR0, HS0, Lib.hid HC.out.nd, Lib.hid (fun s => ⟨fun h => .inl h, fun h => ?_⟩), HB0⟩
        rcases h with h | ⟨h1, h2⟩
        · exact h
        · have hl := ((lv_has HI'.out (by omega) HG'.out (k + 1) s).1 h1).1.1
          rw [(HD1.out s hl).1, h1] at h2
          cases h2
      case round =>
        obtain ⟨left, cnt1, zs', HR, HOs, HND, HME, HBw⟩ := hrel
        obtain ⟨A9, c9, hv9⟩ := HOs.out.shape
        subst hv9
        have hrg := HR.out
        go_wp2_with (at_next; refine wpList_next_ranges_ii _ rfl _ rfl 35 3 .u64 .i64 keyedU Tryd.underlying35 Tryd.underlying3 nb p5 K1 _ _ _ rfl hrg ?_ ?_)
        · intro _ hl0
          have HC2 : Hid (ClW b1 n (k + 1) W2 wr g' (.map (some nb)) (.slice A9 zs'.length c9) zs') := Lib.hid {
            bel := HBw.out
            lvl := ⟨nb, K1, D1, rfl, Nat.le_trans HSW.out HNB.out, hrg.owns, HD1.out⟩
            own := HOs.out
            nd := HND.out
            mem := fun s => by
              rw [HME.out s, HC.out.mem s, lv_has HI'.out (by omega) HG'.out (k + 1) s]
              constructor
              · rintro (⟨h1, h2, h3⟩ | ⟨⟨h1, h2, h3⟩, _⟩)
                · exact ⟨h1, by omega, h3⟩
                · exact ⟨h1, by omega, h3⟩
              · rintro ⟨h1, h2, h3⟩
                by_cases e : cnt s n ≤ k
                · exact .inl ⟨h1, e, h3⟩
                · exact .inr ⟨⟨h1, by omega, h3⟩, hl0 _⟩ }
          have hadd1 : IntKind.i64.wrap ((k : Int) + 1) = ((k + 1 : Nat) : Int) := by rw [IntWalk.i64_in _ (by omega)]; omega
          clear hrg hl0
          go_wp2
          go_roundw
          case rel => exact ⟨k + 1, zs', by omega, by first | rfl | simp, HC2⟩
          case measure => simp [intOf]; omega
        · intro x cc w1 cnt2 hwx hwc hlx hat hrg1 hlt hg1 hs1 hen
          simp [Lit.wf] at hwx
          have hw1 : (0 : Int) ≤ x := hwx.1
          have hw2 : x ≤ (18446744073709551615 : Int) := hwx.2
          obtain ⟨s, rfl⟩ : ∃ s : Nat, x = (s : Int) := ⟨x.toNat, by omega⟩
          have hsl : s < lim := (show s < 18446744073709551616 by omega)
          have hGs : (lvF (befG g') n (k + 1) s).isSome = true := by rw [← (HD1.out s hsl).1]; exact Maps.has_true_of_atKey hat
          have hnew : s ∉ zs' := fun h => by
            rcases (HME.out s).1 h with h | ⟨_, h⟩
            · have h1 := ((HC.out.mem s).1 h).2.1
              have h2 := ((lv_has HI'.out (by omega) HG'.out (k + 1) s).1 hGs).2.1
              omega
            · rw [hlx] at h; cases h
          have hps : p5 < wr.heap.size := hrg.lt
          have hb1r : b1 + 1 ≤ wr.heap.size := Nat.le_trans HP5.out (Nat.le_of_lt hps)
          have hOs1 : OwnS w1 (b1 + 1) (.slice A9 zs'.length c9) zs' := HOs.out.kept hg1 (fun q e => by
            injection e with e
            subst e
            intro hq
            obtain ⟨_, cur, hc⟩ := HOs.out.block hq
            obtain ⟨_, _, _, _, _, _, _, _, _, hit, _⟩ := hrg
            rw [hit] at hc
            cases hc)
          have HO2 : Hid (OwnS (w1.alloc (.cells #[.int .u64 (s : Int)] 35)) (b1 + 1) (.slice A9 zs'.length c9) zs') := Lib.hid (hOs1.kept (World.grownBy_alloc _ _ none) (by simp))
          have HR2 : Hid ((w1.alloc (.cells #[.int .u64 (s : Int)] 35)).ranges Tryd.prog 35 (plainElem Tryd.prog 3) nb p5 K1 D1 (fun z => left z && !z.sameKey (kU s)) cnt2) := Lib.hid (hrg1.alloc _)
          have HB2 : Hid (Below (b1 + 1) W2 (w1.alloc (.cells #[.int .u64 (s : Int)] 35))) := Lib.hid ((HBw.out.grown hg1 hb1r (fun q e => by injection e; have := HP5.out; omega)).alloc (by rw [hs1]; exact hb1r) _)
          have HCE : Hid ((w1.alloc (.cells #[.int .u64 (s : Int)] 35)).cell? ⟨wr.heap.size, 0, none⟩ = some (.int .u64 (s : Int))) := Lib.hid (by
            have h := World.alloc_heap_new w1 (.cells #[.int .u64 (s : Int)] 35)
            rw [hs1] at h
            simp only [World.cell?, h]
            rfl)
          have HZ : Hid (b1 + 1 ≤ (w1.alloc (.cells #[.int .u64 (s : Int)] 35)).heap.size) := Lib.hid (by rw [World.size_alloc, hs1]; omega)
          have HZL : Hid (zs'.length ≤ 1000000) := Lib.hid (by
            have h := len_le 1024 HND.out (fun x hx => by
              have h2 : inS n x := by
                rcases (HME.out x).1 hx with h | ⟨h, _⟩
                · exact ((HC.out.mem x).1 h).1
                · exact ((lv_has HI'.out (by omega) HG'.out (k + 1) x).1 h).1
              have h3 := (inS_iff (show n ≤ 64 by omega)).1 h2
              have := HN.out
              omega)
            omega)
          have HLT := Lib.hid hlt
          have HMU : Hid (wr.rangeLeft nb p5 = cnt1) := Lib.hid hrg.left_eq
          have HND2 : Hid ((zs' ++ [s]).Nodup) := Lib.hid (by
            rw [List.nodup_append]
            exact ⟨HND.out, by simp, fun a ha b hb => by rw [List.mem_singleton] at hb; subst hb; exact fun e => hnew (by rw [← e]; exact ha)⟩)
          have HME2 : Hid (∀ t, t ∈ zs' ++ [s] ↔ t ∈ zs ∨ ((lvF (befG g') n (k + 1) t).isSome = true ∧ (left (kU t) && !(kU t).sameKey (kU s)) = false)) := Lib.hid (fun t => by
            rw [List.mem_append, List.mem_singleton, HME.out t, sameU]
            by_cases e : t = s
            · subst e
              rw [decide_eq_true rfl]
              simp [hGs]
            · rw [decide_eq_false e]
              simp [e])
          clear hrg hwx hw1 hw2 hsl hGs hnew hps hb1r hOs1 hlx hat hrg1 hlt hg1 hwc
          go_wp2_with (at_builtin; refine wpl_appU rfl (.tmp 53) (.tmp 55) rfl (b1 + 1) (.slice A9 zs'.length c9) zs' rfl HO2.out wr.heap.size s rfl HCE.out HZL.out HZ.out ?_; intro v' w2 hown2 hgr2)
          have hnm := HO2.out.not_map HR2.out.owns
          have hni : some p5 ≠ (Value.slice A9 zs'.length c9).ownBlock := fun e => by
            obtain ⟨_, cur, hc⟩ := HO2.out.block e.symm
            obtain ⟨_, _, _, _, _, _, _, _, _, hit, _⟩ := HR2.out
            rw [hit] at hc
            cases hc
          have hR3 := HR2.out.kept hgr2 hnm hni
          have hB3 := HB2.out.grown hgr2 HZ.out (fun q e => (HO2.out.block e).1)
          go_roundw
          case rel => exact ⟨_, _, _, Lib.hid hR3, Lib.hid hown2, HND2, HME2, Lib.hid hB3⟩
          case measure => rw [hR3.left_eq, HMU.out]; exact HLT.out
    · have hdk : decide ((k : Int) < (n : Int)) = false := decide_eq_false (by omega)
      have hkn' : k = n := by omega
      have hcl : ∀ s, closedB g s = true ↔ Cl g' s := fun s => by
        have h := cl_thn HI.out (show n ≤ 64 by omega) HG.out s
        rw [Hg'.out] at h
        rw [closedB_iff, h]
      have hmem : ∀ s, s ∈ zs ↔ s < 2 ^ n ∧ closedB g s = true := fun s => by
        rw [HC.out.mem s, inS_iff (by omega), hcl s, hkn']
        exact ⟨fun ⟨h1, _, h3⟩ => ⟨h1, h3⟩, fun ⟨h1, h3⟩ => ⟨h1, cnt_le s n, h3⟩⟩
      have hcnd : (clN n (closedB g)).Nodup := (clN_pw n _).imp fun h => Nat.ne_of_lt h
      have hperm : zs.Perm (clN n (closedB g)) := (List.perm_ext_iff_of_nodup HC.out.nd hcnd).2 fun s => by rw [hmem s, clN_mem]
      have hlen := hperm.length_eq
      have hfull : closedB g (2 ^ n - 1) = true := by rw [closedB_iff]; exact full_cl HI.out
      obtain ⟨hne, hlast⟩ := clN_last (n := n) (p := closedB g) hfull
      have hzp : 0 < zs.length := by omega
      obtain ⟨gb, cz, hvz, hgb, hgl, hcells⟩ := HC.out.own.cells hzp
      injection hvz with e1 e2 e3
      subst e1 e3
      have HSC := Lib.hid (HS.out zs wo gb cv (by rw [hlen]; exact HLL.out) hcells)
      have hnm := HC.out.own.not_map HOWN.out
      have HNM : Hid (lb ≠ gb) := Lib.hid (fun e => hnm (by rw [e]; rfl))
      have HMEM := Lib.hid hmem
      have HLEN := Lib.hid hlen
      have HGB := Lib.hid (And.intro hgb hgl)
      have HLA := Lib.hid (And.intro hne hlast)
      have HKN := Lib.hid hkn'
      have hN : (2 : Nat) ^ n ≤ 1024 := by
        have h2 : (2 : Nat) ^ n ≤ 2 ^ 10 := Nat.pow_le_pow_right (by omega) hn
        omega
      have hzl : zs.length ≤ 1024 := len_le 1024 HC.out.nd (fun x hx => by
        have h := ((hmem x).1 hx).1
        omega)
      have HN := Lib.hid hN
      clear hmem hperm hlen hfull hne hlast hgb hgl hcells hnm hkn' hcl hcnd hN
      go_wp2_with fail
      refine HSC.out.mono ?_
      rintro e W6 ⟨rfl, hg6, l, hlp, hls, hlc⟩
      clear HSC
      have hl : l = clN n (closedB g) := clN_of hls (hlp.nodup_iff.2 HC.out.nd) (fun s => by rw [hlp.mem_iff]; exact HMEM.out s)
      obtain ⟨LN, hLN⟩ : ∃ LN, (clN n (closedB g)).length = LN := ⟨_, rfl⟩
      have hzL : zs.length = LN := by rw [HLEN.out, hLN]
      have hfl : 2 ^ n - 1 < lim := by have := HN.out; exact (show 2 ^ n - 1 < 18446744073709551616 by omega)
      obtain ⟨full, hfu⟩ : ∃ full, 2 ^ n - 1 = full := ⟨_, rfl⟩
      have hOM6 : OwnM W6 lb K D := HOWN.out.kept hg6 (fun e => HNM.out (by injection e))
      obtain ⟨ways, hwy⟩ : ∃ ways, wayN (befG g) n (2 ^ n - 1) = ways := ⟨_, rfl⟩
      have hlook : ∀ q, (Instr.lookup 66 (.map (some lb)) (.int .u64 (full : Int)) false).run Tryd.prog (W6.drewN q) = .ok (.int .i64 (ways : Int)) (W6.drewN q) := fun q => by
        obtain ⟨c, hrun, hat, _⟩ := (show OwnM (W6.drewN q) lb K D from hOM6).lookup_int keyedU Tryd.underlying66 Tryd.underlying3 (zeroI _) (keyU (k := full) (by rw [← hfu]; exact hfl))
        have hc := HD.out.look (by rw [← hfu]; exact hfl) hat
        have hw : (lvF (befG g') n k full).getD 0 = ways := by
          rw [← hwy, ← hfu, ← Hg'.out, lv_thn HI.out (by omega) HG.out]
          unfold wayN
          rw [cnt_full_eq, HKN.out]
        rw [hw] at hc
        subst hc
        exact hrun
      rw [hfu] at hfl
      have hlc2 : ∀ j, j < LN → W6.cell? ⟨gb, j, none⟩ = some (.int .u64 (((clN n (closedB g)).getD j 0 : Nat) : Int)) := fun j hj => by
        rw [← hl]; exact hlc j (by rw [hl, hLN]; exact hj)
      have hce : W6.cell? ⟨gb, LN - 1, none⟩ = some (.int .u64 (full : Int)) := by
        have h := HLA.out.1
        rw [hLN] at h
        rw [hlc2 (LN - 1) (by omega)]
        have h2 := HLA.out.2
        rw [hLN, hfu] at h2
        rw [List.getD_eq_getElem?_getD, h2]
        rfl
      have hLp : 0 < LN := by rw [← hLN]; exact Nat.pos_of_ne_zero HLA.out.1
      have hidx : IntKind.i64.wrap ((LN : Int) - 1) = ((LN - 1 : Nat) : Int) := by rw [IntWalk.i64_in _ (by omega)]; omega
      have HB6 : Hid (Below w.heap.size w W6) := Lib.hid (by
        rw [Hb0.out]
        have h1 : Below (b1 + 1) W2 W6 := HC.out.bel.grown hg6 (by have := HC.out.bel.size; rw [HZ2.out] at this; exact this) (fun q e => by injection e with e; subst e; exact HGB.out.1)
        exact HB1.out.trans ((HB12.out.trans (h1.mono (Nat.le_succ _))).mono (Nat.le_of_lt HL01.out)))
      have HLC2 := Lib.hid hlc2
      rw [hzL]
      have HWY := Lib.hid hwy
      have HLN := Lib.hid hLN
      clear hl hLN hwy hlc hls hlp hzl hg6 hzp HLEN hzL hlc2 hOM6
      go_wp2_with fail
      go_quiet (fail)
      go_wp2
      refine bodyPost_ret (results_tmp3 rfl _ _ _) rfl ⟨⟨gb, cv, ?_, ?_, fun j hj => ?_⟩, below_drewN HB6.out _⟩
      · rw [HLN.out, HWY.out]; rfl
      · rw [Hb0.out]; have := HGB.out.1; have := HL01.out; omega
      · exact HLC2.out j (by rw [← HLN.out]; exact hj)
end Go.Proofs.YtfcabdgidlnljaaDoor
