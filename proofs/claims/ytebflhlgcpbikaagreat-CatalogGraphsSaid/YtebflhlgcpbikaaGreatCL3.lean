/-
  CatalogGraphs, over this translation.
-/
import Derived.Test.YtebflhlgcpbikaaGreatCAn
import Derived.Test.YtebflhlgcpbikaaGreatCRg
import Derived.Test.YtebflhlgcpbikaaGreatCQm
namespace Go.Proofs.YtebflhlgcpbikaaGreat
open Go.RowKit
open SemP DiP
set_option linter.unusedVariables false
set_option linter.unusedSimpArgs false
set_option maxRecDepth 10000
theorem ck_ok {l : List Sv} (h : (chkC l).2.2 = 0) : (∀ j, j < l.length → bad3 (chkS l j) = false) ∧ Goes (befG (grE l)) l.length l.length := by
  unfold chkC at h
  by_cases h1 : l.length < 1 ∨ 12 < l.length
  · rw [if_pos h1] at h; exact absurd h (by decide)
  rw [if_neg h1] at h
  by_cases h2 : bad3 (fst1 bad3 (0, 0, 0) (chkS l) l.length) = true
  · rw [if_pos h2] at h; exact absurd h (bad3_yes.1 h2)
  rw [if_neg h2] at h
  by_cases h3 : Goes (befG (grE l)) l.length l.length
  · refine ⟨?_, h3⟩
    rcases fst1_cases (bad := bad3) (z := (0, 0, 0)) (f := chkS l) rfl l.length with ⟨k, _, _, hb, e⟩ | ⟨hj, _⟩
    · exact absurd (e ▸ hb) h2
    · exact hj
  · rw [if_neg h3] at h; exact absurd h (by decide)
theorem ck_svc {l : List Sv} {i : Nat} (h : bad3 (chkS l i) = false) : svcE l i = 0 ∧ ∀ v, v < (svAt l i).2.length → relE l.length i (svAt l i).2 v = 0 := by
  unfold chkS at h
  by_cases h1 : svcE l i = 0
  · refine ⟨h1, ?_⟩
    rw [if_neg (by rw [h1]; decide)] at h
    rcases fst1_cases (bad := bad3) (z := (0, 0, 0)) (f := relT l i) rfl (svAt l i).2.length with ⟨k, _, _, hb, e⟩ | ⟨hj, _⟩
    · rw [e, hb] at h; cases h
    · exact fun v hv => bad3_no.1 (hj v hv)
  · rw [if_pos h1] at h
    exact absurd (bad3_no.1 h) h1
theorem ck_need {N i : Nat} {rs : List Rl} {v : Nat} (h : relE N i rs v = 0) : ∀ n, n < (rlAt rs v).2.2.length → needE N i (rlAt rs v).2.2 n = 0 := by
  unfold relE at h
  by_cases a1 : Ver.right (vOf (rlAt rs v).1) = false
  · rw [if_pos a1] at h; exact absurd h (by decide)
  rw [if_neg a1] at h
  by_cases a2 : 0 < v ∧ 0 ≤ cmpV (vOf (rlAt rs (v - 1)).1) (vOf (rlAt rs v).1)
  · rw [if_pos a2] at h; exact absurd h (by decide)
  rw [if_neg a2] at h
  by_cases a3 : (rlAt rs v).2.1 < (if 0 < v then (rlAt rs (v - 1)).2.1 else 0) ∨ 1000 < (rlAt rs v).2.1
  · rw [if_pos a3] at h; exact absurd h (by decide)
  rw [if_neg a3] at h
  by_cases a4 : 8 < (rlAt rs v).2.2.length
  · rw [if_pos a4] at h; exact absurd h (by decide)
  rw [if_neg a4] at h
  unfold needsE at h
  rcases fst1_cases (bad := badI) (z := 0) (f := needE N i (rlAt rs v).2.2) rfl (rlAt rs v).2.2.length with ⟨k, _, _, hb, e⟩ | ⟨hj, _⟩
  · rw [e] at h; exact absurd h (badI_yes.1 hb)
  · exact fun n hn => badI_no.1 (hj n hn)
theorem getD_at {α : Type} [Inhabited α] (l : List α) (v : Nat) (hv : v < l.length) : l.getD v default = l[v]'hv := by simp [List.getD, hv]
theorem ck_self {l : List Sv} (h : (chkC l).2.2 = 0) {i : Nat} (hi : i < l.length) : asks l i (i : Int) = false := by
  unfold asks
  rw [List.any_eq_false]
  intro r hr
  rw [Bool.not_eq_true, List.any_eq_false]
  intro nd hnd
  obtain ⟨v, hv, rfl⟩ := List.getElem_of_mem hr
  obtain ⟨n, hn, rfl⟩ := List.getElem_of_mem hnd
  have e : rlAt (svAt l i).2 v = (svAt l i).2[v]'hv := getD_at _ v hv
  have h1 := ck_need ((ck_svc ((ck_ok h).1 i hi)).2 v hv) n (by rw [e]; exact hn)
  rw [e] at h1
  have e2 : pnAt ((svAt l i).2[v]'hv).2.2 n = ((svAt l i).2[v]'hv).2.2[n]'hn := getD_at _ n hn
  unfold needE at h1
  split at h1
  · exact absurd h1 (by decide)
  · next h2 => rw [e2] at h2; simpa using fun h3 => h2 (.inr h3)
theorem edge_linked {l : List Sv} (h : (chkC l).2.2 = 0) {k : Nat} (hk : k < (grE l).length) : linkC l (fa (grE l) k : Int) (fb (grE l) k : Int) = true := by
  have hm : (grE l).getD k (0, 0) ∈ grE l := by simp [List.getD, hk]
  obtain ⟨h1, h2, h3⟩ := grK_mem hm
  have hne : ((fa (grE l) k : Nat) : Int) ≠ ((fb (grE l) k : Nat) : Int) := by
    intro e
    have e' : ((grE l).getD k (0, 0)).1 = ((grE l).getD k (0, 0)).2 := by unfold fa fb at e; omega
    rw [e', ck_self h h2] at h3; cases h3
  unfold linkC
  rw [decide_eq_true hne]
  have h1' : fa (grE l) k < l.length := h1
  have h2' : fb (grE l) k < l.length := h2
  have i1 : isS l (fa (grE l) k : Int) = true := by unfold isS; rw [decide_eq_true (by omega), decide_eq_true (by omega)]; rfl
  have i2 : isS l (fb (grE l) k : Int) = true := by unfold isS; rw [decide_eq_true (by omega), decide_eq_true (by omega)]; rfl
  rw [i1, i2, Int.toNat_natCast, Int.toNat_natCast]
  have h3' : asks l (fb (grE l) k) (fa (grE l) k : Int) = true := h3
  rw [h3']; simp
theorem infoInt3 : (Tryz.prog.info? 3).map (fun i => (i.zero, i.size, i.bytes)) = some (some (.int .i64 0), 1, 8) := by kernel_rfl
theorem eqEdge_d (w : World) (d : Nat) (a b : Int) : (Op.equalIn (d + 2) 44 (.agg #[.int .i64 a, .int .i64 b]) (.agg #[.int .i64 a, .int .i64 b])).run Tryz.prog w = .ok true w := by
  obtain ⟨i0, hi, hz0, hz1, hz2⟩ := info_parts infoEd
  have ht := Tryz.underlying44
  have hi3 := Tryz.underlying3
  obtain ⟨i1, hj, hj0, hj1, hj2⟩ := info_parts infoInt3
  have q := fun x => run_equalIn_int (P := Tryz.prog) w d 3 .i64 .i64 x x hi3
  unfold Op.equalIn
  simp [run_underlying ht, sizeOf, typeInfo, hj, hj1, List.range', part, q]
theorem eqEdge (w : World) (a b : Int) : (Op.equalIn 10000 44 (.agg #[.int .i64 a, .int .i64 b]) (.agg #[.int .i64 a, .int .i64 b])).run Tryz.prog w = .ok true w := eqEdge_d w 9998 a b
attribute [local go_sem ↓] eqEdge
theorem RdEg.set {w : World} {B m gb i : Nat} {A : Option Addr} {g : List (Nat × Nat)} {x v : Value} {S : Option Addr} {k c : Nat} {T : TypeId} (h : RdEg w B A m g) (hg : w.heap[gb]? = some (.cells #[x, .slice S k c] T (0, 0))) : RdEg (w.setCell ⟨gb, i, none⟩ v) B A m g := by
  refine ⟨h.1, fun hn => ?_⟩
  obtain ⟨b, off, e, hb, hc⟩ := h.2 hn
  have hne : b ≠ gb := by
    intro e2
    subst e2
    have h1 := (hc 0 hn).2
    rw [cell_of_row w b (off + 0 * 2 + 1) _ _ _ hg] at h1
    rcases Nat.eq_zero_or_pos off with h0 | h0
    · subst h0; simp at h1
    · rw [Array.getElem?_eq_none (by simp; omega)] at h1; cases h1
  refine ⟨b, off, e, hb, fun j hj => ⟨?_, ?_⟩⟩
  · exact (World.cell?_of_block (a := ⟨b, off + j * 2, none⟩) (Below.heap_setCell w _ _ b (fun e3 => hne e3))).trans (hc j hj).1
  · exact (World.cell?_of_block (a := ⟨b, off + j * 2 + 1, none⟩) (Below.heap_setCell w _ _ b (fun e3 => hne e3))).trans (hc j hj).2
theorem RdEg.kept {w w' : World} {m : Nat} {A : Option Addr} {g : List (Nat × Nat)} (h : RdEg w w.heap.size A m g) (hb : Below w.heap.size w w') : RdEg w' w'.heap.size A m g := RdE.more (RdEg.below h hb) hb.size
def TwoG (W : World) (n m : Nat) (g : List (Nat × Nat)) (v9 v10 : Value) (w' : World) (o : Option Value) : Prop :=
  ∃ g9 g10 A1 c1 A2 c2, v9 = .pointer (some ⟨g9, 0, none⟩) ∧ v10 = .pointer (some ⟨g10, 0, none⟩) ∧ W.heap.size ≤ g9 ∧ W.heap.size ≤ g10 ∧ w'.heap[g9]? = some (.cells #[.int .i64 (n : Int), .slice A1 m c1] 39 (0, 0)) ∧ (match o with | some v27 => v27 = .agg #[.int .i64 (n : Int), .slice A2 m c2] ∧ w'.heap[g10]? = some (.cells #[.int .i64 0, .slice none 0 0] 41 (0, 0)) | none => w'.heap[g10]? = some (.cells #[.int .i64 (n : Int), .slice A2 m c2] 41 (0, 0))) ∧ RdEg w' w'.heap.size A1 m g ∧ RdEg w' w'.heap.size A2 m g
structure G6St (W : World) (V24 V26 : Value) (n m : Nat) (g : List (Nat × Nat)) (b0 b1 b2 b3 b4 b5 b6 b7 : Bool) (v9 v10 v24 v25 v26 v27 : Value) (w' : World) : Prop where
  q6 : b6 = true → b0 = true ∧ b1 = true ∧ b2 = true ∧ b3 = true ∧ b4 = true ∧ b5 = true
  q7 : b7 = true → b6 = true
  bel : Below W.heap.size W w'
  h0 : b0 = true → v24 = V24
  h2 : b2 = true → v26 = V26
  o1_0 : b1 = true → b0 = true
  o3_2 : b3 = true → b2 = true
  o3_1 : b3 = true → b1 = true
  h1 : b1 = true → b6 = false → ∃ A1 c1, v25 = .agg #[.int .i64 (n : Int), .slice A1 m c1] ∧ RdEg w' w'.heap.size A1 m g
  h3 : b3 = true → b6 = false → ∃ A1 c1, v27 = .agg #[.int .i64 (n : Int), .slice A1 m c1] ∧ RdEg w' w'.heap.size A1 m g
  h4 : b4 = true → b6 = false → ∃ g9, v9 = .pointer (some ⟨g9, 0, none⟩) ∧ W.heap.size ≤ g9 ∧ w'.heap[g9]? = some (.cells #[.int .i64 0, .slice none 0 0] 39 (0, 0))
  h5 : b5 = true → b6 = false → ∃ g9, v10 = .pointer (some ⟨g9, 0, none⟩) ∧ W.heap.size ≤ g9 ∧ w'.heap[g9]? = some (.cells #[.int .i64 0, .slice none 0 0] 41 (0, 0))
  mid : b6 = true → b7 = false → TwoG W n m g v9 v10 w' (some v27)
  fin : b7 = true → TwoG W n m g v9 v10 w' none
theorem G6St.kept {W w' w'' : World} {V24 V26 : Value} {n m : Nat} {g : List (Nat × Nat)} {b0 b1 b2 b3 b4 b5 : Bool} {v9 v10 v24 v25 v26 v27 : Value} (h : G6St W V24 V26 n m g b0 b1 b2 b3 b4 b5 false false v9 v10 v24 v25 v26 v27 w') (hb : Below w'.heap.size w' w'') : G6St W V24 V26 n m g b0 b1 b2 b3 b4 b5 false false v9 v10 v24 v25 v26 v27 w'' :=
  ⟨nofun, nofun, h.bel.trans (hb.mono h.bel.size), h.h0, h.h2, h.o1_0, h.o3_2, h.o3_1, fun h1 h2 => by
    obtain ⟨A1, c1, e, r⟩ := h.h1 h1 h2
    exact ⟨A1, c1, e, r.kept hb⟩, fun h1 h2 => by
    obtain ⟨A1, c1, e, r⟩ := h.h3 h1 h2
    exact ⟨A1, c1, e, r.kept hb⟩, fun h1 h2 => by
    obtain ⟨g9, e, hs, r⟩ := h.h4 h1 h2
    exact ⟨g9, e, hs, (hb.block g9 (heapE_lt r)).trans r⟩, fun h1 h2 => by
    obtain ⟨g9, e, hs, r⟩ := h.h5 h1 h2
    exact ⟨g9, e, hs, (hb.block g9 (heapE_lt r)).trans r⟩, nofun, nofun⟩
inductive G6J (W : World) (V24 V26 : Value) (n m : Nat) (g : List (Nat × Nat)) (p0 p1 p2 p3 p4 p5 p6 p7 p8 p11 p12 p13 p14 p15 p16 p17 p18 p19 p20 p21 p22 p23 p28 p29 p30 p31 p32 p33 p34 p35 p36 p37 p38 p39 p40 p41 p42 p43 p44 p45 p46 p47 p48 p49 p50 p51 p52 p53 p54 p55 p56 p57 p58 p59 p60 p61 p62 p63 p64 p65 p66 p67 p68 p69 p70 p71 p72 p73 p74 p75 p76 p77 p78 p79 p80 p81 p82 p83 p84 p85 p86 p87 p88 p89 p90 p91 p92 p93 p94 p95 : Value) : Array Bool → Act → World → Prop where
  | mk (b0 b1 b2 b3 b4 b5 b6 b7 : Bool) (v9 v10 v24 v25 v26 v27 : Value) (w' : World) : G6St W V24 V26 n m g b0 b1 b2 b3 b4 b5 b6 b7 v9 v10 v24 v25 v26 v27 w' → G6J W V24 V26 n m g p0 p1 p2 p3 p4 p5 p6 p7 p8 p11 p12 p13 p14 p15 p16 p17 p18 p19 p20 p21 p22 p23 p28 p29 p30 p31 p32 p33 p34 p35 p36 p37 p38 p39 p40 p41 p42 p43 p44 p45 p46 p47 p48 p49 p50 p51 p52 p53 p54 p55 p56 p57 p58 p59 p60 p61 p62 p63 p64 p65 p66 p67 p68 p69 p70 p71 p72 p73 p74 p75 p76 p77 p78 p79 p80 p81 p82 p83 p84 p85 p86 p87 p88 p89 p90 p91 p92 p93 p94 p95 #[b0, b1, b2, b3, b4, b5, b6, b7] { tmps := List.toArray (p0 :: p1 :: p2 :: p3 :: p4 :: p5 :: p6 :: p7 :: p8 :: v9 :: v10 :: p11 :: p12 :: p13 :: p14 :: p15 :: p16 :: p17 :: p18 :: p19 :: p20 :: p21 :: p22 :: p23 :: v24 :: v25 :: v26 :: v27 :: p28 :: p29 :: p30 :: p31 :: p32 :: p33 :: p34 :: p35 :: p36 :: p37 :: p38 :: p39 :: p40 :: p41 :: p42 :: p43 :: p44 :: p45 :: p46 :: p47 :: p48 :: p49 :: p50 :: p51 :: p52 :: p53 :: p54 :: p55 :: p56 :: p57 :: p58 :: p59 :: p60 :: p61 :: p62 :: p63 :: p64 :: p65 :: p66 :: p67 :: p68 :: p69 :: p70 :: p71 :: p72 :: p73 :: p74 :: p75 :: p76 :: p77 :: p78 :: p79 :: p80 :: p81 :: p82 :: p83 :: p84 :: p85 :: p86 :: p87 :: p88 :: p89 :: p90 :: p91 :: p92 :: p93 :: p94 :: p95 :: []), defers := [] } w'
set_option maxHeartbeats 16000000 in
theorem law_graphs {w : World} {n c : Nat} {A : Option Addr} {l : List Sv} {i j : Int} (hr : RdJ 2 svI w (fun b => w.heap.size ≤ b) A n l) (hcap : CapA A n c) (hm : LenAt w) (h1 : 1 < w.heap.size) :
    Calls Tryz.prog 4 #[.agg #[.slice A n c], .int .i64 i, .int .i64 j] w fun e w' => e = .returned (.bool true) ∧ Below w.heap.size w w' := by
  have HR := Lib.hid hr
  have HC := Lib.hid hcap
  obtain ⟨W, HW⟩ : ∃ W, Hid (W = w.alloc (.cells #[.slice A n c] 24)) := ⟨_, Lib.hid rfl⟩
  have hbW : Below w.heap.size w W := by rw [HW.out]; exact (Below.refl _ w).alloc (Nat.le_refl _) _
  have H0 : Hid (W.heap[w.heap.size]? = some (.cells #[.slice A n c] 24 (0, 0))) := Lib.hid (by rw [HW.out]; exact heap_new w _)
  have HLW := Lib.hid (LenAt.below hm h1 hbW)
  have HBW := Lib.hid hbW
  have hsz := hbW.size
  clear hr hcap hm h1 hbW
  obtain ⟨x0, _⟩ := row1f H0.out
  have HAN := Lib.hid (canchor_any W HLW.out.1 HLW.out.2)
  go_enter Tryz.func4, Tryz.ntmps4
  go_upto_region 1 with fail
  change Code.wp _ _ _ _ (w.alloc (.cells #[.slice A n c] 24))
  rw [← HW.out]
  go_wp2_with fail
  refine HAN.out.mono ?_
  rintro e w1 ⟨rfl, hb⟩
  have HB1 : Hid (Below w.heap.size w w1) := Lib.hid (HBW.out.trans (hb.mono hsz))
  have HL1 := Lib.hid (LenAt.below HLW.out.1 HLW.out.2 hb)
  have K1 : Hid (w1.heap[w.heap.size]? = _) := Lib.hid ((hb.block w.heap.size (heapE_lt H0.out)).trans H0.out)
  clear hb x0 HAN
  obtain ⟨x0, _⟩ := row1f K1.out
  have HMC := Lib.hid (right_any (c := c) (RdJ.below sv_turns HR.out HB1.out) HB1.out.size HL1.out.1 HL1.out.2)
  go_wp2_with fail
  refine HMC.out.mono ?_
  rintro e z1 ⟨A', n', c', ok, rfl, hb, hit⟩
  obtain ⟨W2, HW2⟩ : ∃ W2, Hid (W2 = z1.alloc (.cells #[.slice A' n' c'] 28)) := ⟨_, Lib.hid rfl⟩
  have hb2 : Below z1.heap.size z1 W2 := by rw [HW2.out]; exact (Below.refl _ z1).alloc (Nat.le_refl _) _
  have J2 : Hid (W2.heap[z1.heap.size]? = some (.cells #[.slice A' n' c'] 28 (0, 0))) := Lib.hid (by rw [HW2.out]; exact heap_new z1 _)
  have hb12 : Below w1.heap.size w1 W2 := hb.trans (hb2.mono hb.size)
  have HB2 : Hid (Below w.heap.size w W2) := Lib.hid (HB1.out.trans (hb12.mono HB1.out.size))
  have HL2 := Lib.hid (LenAt.below HL1.out.1 HL1.out.2 hb12)
  have K2 : Hid (W2.heap[w.heap.size]? = _) := Lib.hid ((hb12.block w.heap.size (heapE_lt K1.out)).trans K1.out)
  have HIT := Lib.hid (fun h => And.intro (And.intro (hit h).1 (hit h).2.1) (ss_turns.kept (hit h).2.2 hb2))
  clear hb hb2 hb12 hit x0 HMC
  go_upto_region 4 with fail
  change Code.wp _ _ _ _ (z1.alloc (.cells #[.slice A' n' c'] 28))
  rw [← HW2.out]
  cases ok with
  | false =>
    go_wp2_with fail
    refine bodyPost_ret (results_tmp rfl _ _ _) rfl ⟨rfl, HB2.out⟩
  | true =>
    obtain ⟨⟨hck, hsm⟩, hss⟩ := HIT.out rfl
    obtain ⟨hcap', hrd'⟩ := (ss_turns.go hss (FrM.refl W2 _) (M' := fun b => W2.heap.size ≤ b) (fun b hb => .inr hb)).rd
    have HP : Hid (CatAt W2 w.heap.size A n c l) := Lib.hid ⟨RdJ.below sv_turns HR.out HB2.out, HC.out, HB2.out.size, hsm, HL2.out.1, HL2.out.2⟩
    have HQ : Hid (CatAt W2 W2.heap.size A' n' c' l) := Lib.hid ⟨hrd', hcap', Nat.le_refl _, hsm, HL2.out.1, HL2.out.2⟩
    obtain rfl : n' = n := by rw [← HQ.out.rd.1, ← HP.out.rd.1]
    have HCK := Lib.hid hck
    clear hsm hss hcap' hrd' HIT hck
    have KC : Hid (W2.cell? ⟨w.heap.size, 0, none⟩ = some (.slice A n' c)) := Lib.hid (row1f K2.out).1
    have KR : Hid (W2.cell? ⟨z1.heap.size, 0, none⟩ = some (.slice A' n' c')) := Lib.hid (row1f J2.out).1
    have hzc : w.heap.size < W2.heap.size := heapE_lt K2.out
    have hzr : z1.heap.size < W2.heap.size := heapE_lt J2.out
    go_upto_region 6 with fail
    refine wp_region_inv (by kernel_rfl) (I := G6J W2 (.agg #[.slice A n' c]) (.agg #[.slice A' n' c']) n' (grE l).length (grE l) _ _ _ _ _ _ _ _ _ _ _ _ _ _ _ _ _ _ _ _ _ _ _ _ _ _ _ _ _ _ _ _ _ _ _ _ _ _ _ _ _ _ _ _ _ _ _ _ _ _ _ _ _ _ _ _ _ _ _ _ _ _ _ _ _ _ _ _ _ _ _ _ _ _ _ _ _ _ _ _ _ _ _ _ _ _ _ _ _ _) (.mk false false false false false false false false _ _ _ _ _ _ _ ⟨nofun, nofun, (Below.refl _ W2).drew, nofun, nofun, nofun, nofun, nofun, nofun, nofun, nofun, nofun, nofun, nofun⟩) ?step ?fin
    case step =>
      rintro lq a' w' ix ⟨b0, b1, b2, b3, b4, b5, b6, b7, v9, v10, v24, v25, v26, v27, _, HT⟩ hi
      obtain ⟨hi_, hib⟩ := ready_lt hi
      match ix, hi_, hi, hib with
      | 0, _, hi, hib =>
        obtain rfl : b0 = false := by simpa using hib
        obtain rfl : b6 = false := by
          cases hb6 : b6 with
          | false => rfl
          | true => have h := (HT.q6 hb6).1; cases h
        obtain rfl : b7 = false := by
          cases hb7 : b7 with
          | false => rfl
          | true => have h := HT.q7 hb7; cases h
        have hbel := HT.bel
        have HTH := Lib.hid HT
        have q0 := (hbel.cell (p := ⟨w.heap.size, 0, none⟩) hzc).trans KC.out
        clear HT hbel
        refine wpOp_one rfl rfl (fun K hK => ?_)
        go_simp
        exact hK.out _ _ (.mk true b1 b2 b3 b4 b5 false false _ _ _ _ _ _ _ { HTH.out with q6 := nofun, q7 := nofun, h0 := fun _ => rfl, o1_0 := fun _ => rfl, mid := nofun, fin := nofun })
      | 2, _, hi, hib =>
        obtain rfl : b2 = false := by simpa using hib
        obtain rfl : b6 = false := by
          cases hb6 : b6 with
          | false => rfl
          | true => have h := (HT.q6 hb6).2.2.1; cases h
        obtain rfl : b7 = false := by
          cases hb7 : b7 with
          | false => rfl
          | true => have h := HT.q7 hb7; cases h
        have hbel := HT.bel
        have HTH := Lib.hid HT
        have q0 := (hbel.cell (p := ⟨z1.heap.size, 0, none⟩) hzr).trans KR.out
        clear HT hbel
        refine wpOp_one rfl rfl (fun K hK => ?_)
        go_simp
        exact hK.out _ _ (.mk b0 b1 true b3 b4 b5 false false _ _ _ _ _ _ _ { HTH.out with q6 := nofun, q7 := nofun, h2 := fun _ => rfl, o3_2 := fun _ => rfl, mid := nofun, fin := nofun })
      | 1, _, hi, hib =>
        obtain rfl : b1 = false := by simpa using hib
        obtain rfl : b6 = false := by
          cases hb6 : b6 with
          | false => rfl
          | true => have h := (HT.q6 hb6).2.1; cases h
        obtain rfl : b7 = false := by
          cases hb7 : b7 with
          | false => rfl
          | true => have h := HT.q7 hb7; cases h
        have hbel := HT.bel
        have HTH := Lib.hid HT
        have d0 : b0 = true := ready_dep hi rfl 0 (by kernel_rfl)
        have e0 := HT.h0 d0
        subst e0
        have HC := Lib.hid (graph_any (HP.out.below hbel))
        clear HT hbel
        refine wpOp_one rfl rfl (fun K hK => ?_)
        go_simp
        refine HC.out.mono ?_
        rintro e w2 ⟨A1, c1, rfl, hr1, hb⟩
        exact hK.out _ _ (.mk b0 true b2 b3 b4 b5 false false _ _ _ _ _ _ _ { HTH.out.kept hb with q6 := nofun, q7 := nofun, o1_0 := fun _ => d0, o3_1 := fun _ => rfl, h1 := fun _ _ => ⟨A1, c1, rfl, hr1⟩, mid := nofun, fin := nofun })
      | 3, _, hi, hib =>
        obtain rfl : b3 = false := by simpa using hib
        obtain rfl : b6 = false := by
          cases hb6 : b6 with
          | false => rfl
          | true => have h := (HT.q6 hb6).2.2.2.1; cases h
        obtain rfl : b7 = false := by
          cases hb7 : b7 with
          | false => rfl
          | true => have h := HT.q7 hb7; cases h
        have hbel := HT.bel
        have HTH := Lib.hid HT
        have d2 : b2 = true := ready_dep hi rfl 2 (by kernel_rfl)
        have d1 : b1 = true := ready_dep hi rfl 1 (by kernel_rfl)
        have e0 := HT.h2 d2
        subst e0
        have HC := Lib.hid (graphQ_any (HQ.out.below hbel))
        clear HT hbel
        refine wpOp_one rfl rfl (fun K hK => ?_)
        go_simp
        refine HC.out.mono ?_
        rintro e w2 ⟨A1, c1, rfl, hr1, hb⟩
        exact hK.out _ _ (.mk b0 b1 b2 true b4 b5 false false _ _ _ _ _ _ _ { HTH.out.kept hb with q6 := nofun, q7 := nofun, o3_2 := fun _ => d2, o3_1 := fun _ => d1, h3 := fun _ _ => ⟨A1, c1, rfl, hr1⟩, mid := nofun, fin := nofun })
      | 4, _, hi, hib =>
        obtain rfl : b4 = false := by simpa using hib
        obtain rfl : b6 = false := by
          cases hb6 : b6 with
          | false => rfl
          | true => have h := (HT.q6 hb6).2.2.2.2.1; cases h
        obtain rfl : b7 = false := by
          cases hb7 : b7 with
          | false => rfl
          | true => have h := HT.q7 hb7; cases h
        have hbel := HT.bel
        have HTH := Lib.hid HT
        clear HT hbel
        refine wpOp_one rfl rfl (fun K hK => ?_)
        go_simp
        have hba : Below w'.heap.size w' (w'.alloc (.cells #[.int .i64 0, .slice none 0 0] 39)) := (Below.refl _ w').alloc (Nat.le_refl _) _
        exact hK.out _ _ (.mk b0 b1 b2 b3 true b5 false false _ _ _ _ _ _ _ { HTH.out.kept hba with q6 := nofun, q7 := nofun, h4 := fun _ _ => ⟨w'.heap.size, rfl, HTH.out.bel.size, heap_new w' _⟩, mid := nofun, fin := nofun })
      | 5, _, hi, hib =>
        obtain rfl : b5 = false := by simpa using hib
        obtain rfl : b6 = false := by
          cases hb6 : b6 with
          | false => rfl
          | true => have h := (HT.q6 hb6).2.2.2.2.2; cases h
        obtain rfl : b7 = false := by
          cases hb7 : b7 with
          | false => rfl
          | true => have h := HT.q7 hb7; cases h
        have hbel := HT.bel
        have HTH := Lib.hid HT
        clear HT hbel
        refine wpOp_one rfl rfl (fun K hK => ?_)
        go_simp
        have hba : Below w'.heap.size w' (w'.alloc (.cells #[.int .i64 0, .slice none 0 0] 41)) := (Below.refl _ w').alloc (Nat.le_refl _) _
        exact hK.out _ _ (.mk b0 b1 b2 b3 b4 true false false _ _ _ _ _ _ _ { HTH.out.kept hba with q6 := nofun, q7 := nofun, h5 := fun _ _ => ⟨w'.heap.size, rfl, HTH.out.bel.size, heap_new w' _⟩, mid := nofun, fin := nofun })
      | 6, _, hi, hib =>
        obtain rfl : b6 = false := by simpa using hib
        obtain rfl : b7 = false := by
          cases hb7 : b7 with
          | false => rfl
          | true => have h := HT.q7 hb7; cases h
        have d1 : b1 = true := ready_dep hi rfl 1 (by kernel_rfl)
        have d3 : b3 = true := ready_dep hi rfl 3 (by kernel_rfl)
        have d4 : b4 = true := ready_dep hi rfl 4 (by kernel_rfl)
        have d5 : b5 = true := ready_dep hi rfl 5 (by kernel_rfl)
        have d0 := HT.o1_0 d1
        have d2 := HT.o3_2 d3
        subst d0 d1 d2 d3 d4 d5
        obtain ⟨A1, c1, e1, r1⟩ := HT.h1 rfl rfl
        obtain ⟨A2, c2, e3, r3⟩ := HT.h3 rfl rfl
        obtain ⟨g9, e4, hs4, r4⟩ := HT.h4 rfl rfl
        obtain ⟨g10, e5, hs5, r5⟩ := HT.h5 rfl rfl
        subst e1 e4 e3 e5
        have hne : g10 ≠ g9 := by
          intro e; subst e; rw [r4] at r5; injection r5 with r5; injection r5 with _ r5; revert r5; decide
        have hbel := HT.bel
        have HTH := Lib.hid HT
        obtain ⟨p0, p1, f0, f1⟩ := row2 r4
        have k4 := heap_setCell_same w' g9 0 _ _ (.int .i64 (n' : Int)) r4
        have k4b := heap_setCell_same (w'.setCell ⟨g9, 0, none⟩ (.int .i64 (n' : Int))) g9 1 _ _ (.slice A1 (grE l).length c1) k4
        have K4 : Hid (((w'.setCell ⟨g9, 0, none⟩ (.int .i64 (n' : Int))).setCell ⟨g9, 1, none⟩ (.slice A1 (grE l).length c1)).heap[g9]? = some (.cells #[.int .i64 (n' : Int), .slice A1 (grE l).length c1] 39 (0, 0))) := Lib.hid k4b
        have K5 : Hid (((w'.setCell ⟨g9, 0, none⟩ (.int .i64 (n' : Int))).setCell ⟨g9, 1, none⟩ (.slice A1 (grE l).length c1)).heap[g10]? = some (.cells #[.int .i64 0, .slice none 0 0] 41 (0, 0))) := Lib.hid ((Below.heap_setCell _ _ _ g10 (fun e => hne e)).trans ((Below.heap_setCell _ _ _ g10 (fun e => hne e)).trans r5))
        have R1 := Lib.hid ((r1.set r4 (i := 0) (v := .int .i64 (n' : Int))).set (i := 1) (v := .slice A1 (grE l).length c1) k4)
        have R3 := Lib.hid ((r3.set r4 (i := 0) (v := .int .i64 (n' : Int))).set (i := 1) (v := .slice A1 (grE l).length c1) k4)
        have HBL := Lib.hid ((hbel.setCell (p := ⟨g9, 0, none⟩) hs4 (.int .i64 (n' : Int))).setCell (p := ⟨g9, 1, none⟩) hs4 (.slice A1 (grE l).length c1))
        have hz2 : ((w'.setCell ⟨g9, 0, none⟩ (.int .i64 (n' : Int))).setCell ⟨g9, 1, none⟩ (.slice A1 (grE l).length c1)).heap.size = w'.heap.size := by simp
        clear k4 k4b r1 r3 r4 r5
        clear HT hbel
        refine wpOp_one rfl rfl (fun K hK => ?_)
        go_simp
        exact hK.out _ _ (.mk true true true true true true true false _ _ _ _ _ _ _ { HTH.out with q6 := fun _ => ⟨rfl, rfl, rfl, rfl, rfl, rfl⟩, q7 := nofun, bel := HBL.out, h1 := nofun, h3 := nofun, h4 := nofun, h5 := nofun, mid := fun _ _ => ⟨g9, g10, A1, c1, A2, c2, rfl, rfl, hs4, hs5, K4.out, ⟨rfl, K5.out⟩, by rw [hz2]; exact R1.out, by rw [hz2]; exact R3.out⟩, fin := nofun })
      | 7, _, hi, hib =>
        obtain rfl : b7 = false := by simpa using hib
        have d6 : b6 = true := ready_dep hi rfl 6 (by kernel_rfl)
        subst d6
        obtain ⟨d0, d1, d2, d3, d4, d5⟩ := HT.q6 rfl
        subst d0 d1 d2 d3 d4 d5
        obtain ⟨g9, g10, A1, c1, A2, c2, e4, e5, hs4, hs5, r4, ⟨e3, r5⟩, r1, r3⟩ := HT.mid rfl rfl
        subst e3 e5 e4
        have hne : g9 ≠ g10 := by
          intro e; subst e; rw [r4] at r5; injection r5 with r5; injection r5 with _ r5; revert r5; decide
        have hbel := HT.bel
        have HTH := Lib.hid HT
        obtain ⟨p0, p1, f0, f1⟩ := row2 r5
        have k4 := heap_setCell_same w' g10 0 _ _ (.int .i64 (n' : Int)) r5
        have k4b := heap_setCell_same (w'.setCell ⟨g10, 0, none⟩ (.int .i64 (n' : Int))) g10 1 _ _ (.slice A2 (grE l).length c2) k4
        have K5 : Hid (((w'.setCell ⟨g10, 0, none⟩ (.int .i64 (n' : Int))).setCell ⟨g10, 1, none⟩ (.slice A2 (grE l).length c2)).heap[g10]? = some (.cells #[.int .i64 (n' : Int), .slice A2 (grE l).length c2] 41 (0, 0))) := Lib.hid k4b
        have K4 : Hid (((w'.setCell ⟨g10, 0, none⟩ (.int .i64 (n' : Int))).setCell ⟨g10, 1, none⟩ (.slice A2 (grE l).length c2)).heap[g9]? = some (.cells #[.int .i64 (n' : Int), .slice A1 (grE l).length c1] 39 (0, 0))) := Lib.hid ((Below.heap_setCell _ _ _ g9 (fun e => hne e)).trans ((Below.heap_setCell _ _ _ g9 (fun e => hne e)).trans r4))
        have R1 := Lib.hid ((r1.set r5 (i := 0) (v := .int .i64 (n' : Int))).set (i := 1) (v := .slice A2 (grE l).length c2) k4)
        have R3 := Lib.hid ((r3.set r5 (i := 0) (v := .int .i64 (n' : Int))).set (i := 1) (v := .slice A2 (grE l).length c2) k4)
        have HBL := Lib.hid ((hbel.setCell (p := ⟨g10, 0, none⟩) hs5 (.int .i64 (n' : Int))).setCell (p := ⟨g10, 1, none⟩) hs5 (.slice A2 (grE l).length c2))
        have hz2 : ((w'.setCell ⟨g10, 0, none⟩ (.int .i64 (n' : Int))).setCell ⟨g10, 1, none⟩ (.slice A2 (grE l).length c2)).heap.size = w'.heap.size := by simp
        clear k4 k4b r1 r3 r4 r5
        clear HT hbel
        refine wpOp_one rfl rfl (fun K hK => ?_)
        go_simp
        exact hK.out _ _ (.mk true true true true true true true true _ _ _ _ _ _ _ { HTH.out with q6 := fun _ => ⟨rfl, rfl, rfl, rfl, rfl, rfl⟩, q7 := fun _ => rfl, bel := HBL.out, h1 := nofun, h3 := nofun, h4 := nofun, h5 := nofun, mid := nofun, fin := fun _ => ⟨g9, g10, A1, c1, A2, c2, rfl, rfl, hs4, hs5, K4.out, K5.out, by rw [hz2]; exact R1.out, by rw [hz2]; exact R3.out⟩ })
    case fin =>
      rintro lq a' w' ⟨b0, b1, b2, b3, b4, b5, b6, b7, v9, v10, v24, v25, v26, v27, _, HT⟩ hr
      obtain rfl : b0 = true := by
        cases b0 with
        | true => rfl
        | false => exact (ready_in 0 rfl rfl (by simp [Region.binds]) hr).elim
      obtain rfl : b1 = true := by
        cases b1 with
        | true => rfl
        | false => exact (ready_in 1 rfl rfl (by simp [Region.binds]) hr).elim
      obtain rfl : b2 = true := by
        cases b2 with
        | true => rfl
        | false => exact (ready_in 2 rfl rfl (by simp [Region.binds]) hr).elim
      obtain rfl : b3 = true := by
        cases b3 with
        | true => rfl
        | false => exact (ready_in 3 rfl rfl (by simp [Region.binds]) hr).elim
      obtain rfl : b4 = true := by
        cases b4 with
        | true => rfl
        | false => exact (ready_in 4 rfl rfl (by simp [Region.binds]) hr).elim
      obtain rfl : b5 = true := by
        cases b5 with
        | true => rfl
        | false => exact (ready_in 5 rfl rfl (by simp [Region.binds]) hr).elim
      obtain rfl : b6 = true := by
        cases b6 with
        | true => rfl
        | false => exact (ready_in 6 rfl rfl (by simp [Region.binds]) hr).elim
      obtain rfl : b7 = true := by
        cases b7 with
        | true => rfl
        | false => exact (ready_in 7 rfl rfl (by simp [Region.binds]) hr).elim
      have hbel := HT.bel
      obtain ⟨g9, g10, A1, c1, A2, c2, e4, e5, hs4, hs5, r4, r5, r1, r3⟩ := HT.fin rfl
      subst e4 e5
      have HB6 : Hid (Below w.heap.size w w') := Lib.hid (HB2.out.trans (hbel.mono HB2.out.size))
      have HP6 := Lib.hid (HP.out.below hbel)
      have HQ6 := Lib.hid (HQ.out.below hbel)
      have K6 : Hid (w'.heap[w.heap.size]? = some (.cells #[.slice A n' c] 24 (0, 0))) := Lib.hid ((hbel.block w.heap.size hzc).trans K2.out)
      have J6 : Hid (w'.heap[z1.heap.size]? = some (.cells #[.slice A' n' c'] 28 (0, 0))) := Lib.hid ((hbel.block z1.heap.size hzr).trans J2.out)
      have R9 := Lib.hid r4
      have R10 := Lib.hid r5
      have HE1 := Lib.hid r1
      have HE2 := Lib.hid r3
      clear HT hr hbel r4 r5 r1 r3 HP HQ
      obtain ⟨q, HQV⟩ : ∃ q, Hid (linkC l i j = q) := ⟨_, Lib.hid rfl⟩
      have HQW : Hid (linkC l j i = q) := Lib.hid (by rw [linkC_swap]; exact HQV.out)
      have hqq : (q != q) = false := by cases q <;> rfl
      have hnn : ((n' : Int) != (n' : Int)) = false := by simp
      have hmm : (((grE l).length : Int) != ((grE l).length : Int)) = false := by simp
      have HI1 := Lib.hid (linked_any (i := i) (j := j) (HP6.out.below (Below.drewN' (Below.refl _ w') 1)))
      rw [HQV.out] at HI1
      obtain ⟨a0, a1, _, _⟩ := row2 R9.out
      obtain ⟨a2, a3, _, _⟩ := row2 R10.out
      obtain ⟨a4, _⟩ := row1f K6.out
      obtain ⟨a5, _⟩ := row1f J6.out
      go_wp2_with fail
      go_region_held3 (fun W' => W'.cell? ⟨g9, 0, none⟩ = some (.int .i64 (n' : Int)) ∧ W'.cell? ⟨g9, 1, none⟩ = some (.slice A1 (grE l).length c1) ∧ W'.cell? ⟨g10, 0, none⟩ = some (.int .i64 (n' : Int)) ∧ W'.cell? ⟨g10, 1, none⟩ = some (.slice A2 (grE l).length c2) ∧ W'.cell? ⟨w.heap.size, 0, none⟩ = some (.slice A n' c) ∧ W'.cell? ⟨z1.heap.size, 0, none⟩ = some (.slice A' n' c')) ((first | exact ⟨a0, a1, a2, a3, a4, a5⟩ | exact ⟨d0, d1, d2, d3, d4, d5⟩ | exact ⟨e0, e1, e2, e3, e4, e5⟩ | exact ⟨f0, f1, f2, f3, f4, f5⟩ | exact ⟨k0, k1, k2, k3, k4, k5⟩ | go_keep)) (first
        | (go_at_call 16; refine HI4.out.mono ?_; rintro e wd ⟨rfl, hb'⟩; (have HBd : Hid (Below w'.heap.size w' wd) := Lib.hid (HBc.out.trans (hb'.mono HBc.out.size))); clear hb'; (obtain ⟨k0, k1, _, _⟩ := row2 ((HBd.out.block g9 (heapE_lt R9.out)).trans R9.out)); (obtain ⟨k2, k3, _, _⟩ := row2 ((HBd.out.block g10 (heapE_lt R10.out)).trans R10.out)); (obtain ⟨k4, _⟩ := row1f ((HBd.out.block w.heap.size (heapE_lt K6.out)).trans K6.out)); (obtain ⟨k5, _⟩ := row1f ((HBd.out.block z1.heap.size (heapE_lt J6.out)).trans J6.out)))
        | (go_at_call 16; refine HI3.out.mono ?_; rintro e wc ⟨rfl, hb'⟩; (have HBc : Hid (Below w'.heap.size w' wc) := Lib.hid (HBb.out.trans (hb'.mono HBb.out.size))); clear hb'; (obtain ⟨f0, f1, _, _⟩ := row2 ((HBc.out.block g9 (heapE_lt R9.out)).trans R9.out)); (obtain ⟨f2, f3, _, _⟩ := row2 ((HBc.out.block g10 (heapE_lt R10.out)).trans R10.out)); (obtain ⟨f4, _⟩ := row1f ((HBc.out.block w.heap.size (heapE_lt K6.out)).trans K6.out)); (obtain ⟨f5, _⟩ := row1f ((HBc.out.block z1.heap.size (heapE_lt J6.out)).trans J6.out)); (have HI4 := Lib.hid (linked_any (i := j) (j := i) (HP6.out.below HBc.out))); (rw [HQW.out] at HI4))
        | (go_at_call 17; refine HI2.out.mono ?_; rintro e wb ⟨rfl, hb'⟩; (have HBb : Hid (Below w'.heap.size w' wb) := Lib.hid (HBa.out.trans (hb'.mono HBa.out.size))); clear hb'; (obtain ⟨e0, e1, _, _⟩ := row2 ((HBb.out.block g9 (heapE_lt R9.out)).trans R9.out)); (obtain ⟨e2, e3, _, _⟩ := row2 ((HBb.out.block g10 (heapE_lt R10.out)).trans R10.out)); (obtain ⟨e4, _⟩ := row1f ((HBb.out.block w.heap.size (heapE_lt K6.out)).trans K6.out)); (obtain ⟨e5, _⟩ := row1f ((HBb.out.block z1.heap.size (heapE_lt J6.out)).trans J6.out)); (have HI3 := Lib.hid (linked_any (i := i) (j := j) (HP6.out.below HBb.out))); (rw [HQV.out] at HI3))
        | (go_at_call 16; refine HI1.out.mono ?_; rintro e wa ⟨rfl, hb'⟩; (have HBa : Hid (Below w'.heap.size w' wa) := Lib.hid ((Below.drewN' (Below.refl _ w') 1).trans hb')); clear hb'; (obtain ⟨d0, d1, _, _⟩ := row2 ((HBa.out.block g9 (heapE_lt R9.out)).trans R9.out)); (obtain ⟨d2, d3, _, _⟩ := row2 ((HBa.out.block g10 (heapE_lt R10.out)).trans R10.out)); (obtain ⟨d4, _⟩ := row1f ((HBa.out.block w.heap.size (heapE_lt K6.out)).trans K6.out)); (obtain ⟨d5, _⟩ := row1f ((HBa.out.block z1.heap.size (heapE_lt J6.out)).trans J6.out)); (have HI2 := Lib.hid (linkQ_any (i := i) (j := j) (HQ6.out.below HBa.out))); (rw [HQV.out] at HI2)))
      clear a0 a1 a2 a3 a4 a5 d0 d1 d2 d3 d4 d5 e0 e1 e2 e3 e4 e5 f0 f1 f2 f3 f4 f5 HI1 HI2 HI3 HI4 HBa HBb HBc
      have HB7 : Hid (Below w.heap.size w wd) := Lib.hid (HB6.out.trans (HBd.out.mono HB6.out.size))
      go_wp2_with fail
      clear k0 k1 k2 k3 k4 k5
      go_loopw [11, 12, 67] (fun _ _ v wr => ∃ k : Nat, k ≤ (grE l).length ∧ v = .int .i64 (k : Int) ∧ Hid (Below wd.heap.size wd wr)) (fun _ _ v _ => (grE l).length - (intOf v).toNat)
      case atStart => exact ⟨0, Nat.zero_le _, rfl, Lib.hid (Below.refl _ _)⟩
      case round =>
        obtain ⟨wo, hwo⟩ : ∃ x, x = wr := ⟨_, rfl⟩
        subst hwo
        obtain ⟨k, hk, rfl, HBr⟩ := hrel
        have HBo : Hid (Below w'.heap.size w' wo) := Lib.hid (HBd.out.trans (HBr.out.mono HBd.out.size))
        have HLEN : Hid ((grE l).length ≤ 256) := Lib.hid (grE_len HP6.out.rd.1 HP6.out.n16)
        have o9 : Hid (wo.heap[g9]? = _) := Lib.hid ((HBo.out.block g9 (heapE_lt R9.out)).trans R9.out)
        have o10 : Hid (wo.heap[g10]? = _) := Lib.hid ((HBo.out.block g10 (heapE_lt R10.out)).trans R10.out)
        have oc : Hid (wo.heap[w.heap.size]? = _) := Lib.hid ((HBo.out.block w.heap.size (heapE_lt K6.out)).trans K6.out)
        have HX1 := Lib.hid (RdEg.below HE1.out HBo.out)
        have HX2 := Lib.hid (RdEg.below HE2.out HBo.out)
        by_cases hkn : k < (grE l).length
        · have hd : decide ((k : Int) < ((grE l).length : Int)) = true := by simp; omega
          have hki : (k : Int) < ((grE l).length : Int) := by omega
          have hk0 : (0 : Int) ≤ (k : Int) := by omega
          have hadd : IntKind.i64.wrap ((k : Int) + 1) = ((k + 1 : Nat) : Int) := by rw [IntWalk.i64_in _ (by have := HLEN.out; omega)]; omega
          obtain ⟨b1, o1, rfl, hb1, p0, p1⟩ := HX1.out.at_ hkn
          obtain ⟨b2, o2, rfl, hb2, q0, q1⟩ := HX2.out.at_ hkn
          have hb1w : b1 < wo.heap.size := by have := HBo.out.size; omega
          have hb2w : b2 < wo.heap.size := by have := HBo.out.size; omega
          have HLK := Lib.hid (edge_linked HCK.out hkn)
          obtain ⟨a, HFA⟩ : ∃ a, Hid (fa (grE l) k = a) := ⟨_, Lib.hid rfl⟩
          obtain ⟨b, HFB⟩ : ∃ b, Hid (fb (grE l) k = b) := ⟨_, Lib.hid rfl⟩
          rw [HFA.out] at p0 q0 HLK
          rw [HFB.out] at p1 q1 HLK
          obtain ⟨X, HX⟩ : ∃ X, Hid (X = wo.alloc (.cells #[.int .i64 (a : Int), .int .i64 (b : Int)] 44)) := ⟨_, Lib.hid rfl⟩
          have hbx : Below wo.heap.size wo X := by rw [HX.out]; exact (Below.refl _ wo).alloc (Nat.le_refl _) _
          have X0 : Hid (X.heap[wo.heap.size]? = some (.cells #[.int .i64 (a : Int), .int .i64 (b : Int)] 44 (0, 0))) := Lib.hid (by rw [HX.out]; exact heap_new wo _)
          have HBX := Lib.hid hbx
          have HBX6 : Hid (Below w'.heap.size w' X) := Lib.hid (HBo.out.trans (hbx.mono HBo.out.size))
          clear hbx
          go_upto_region 12 with fail
          change Code.wp _ _ _ _ (wo.alloc (.cells #[.int .i64 (a : Int), .int .i64 (b : Int)] 44))
          rw [← HX.out]
          have s0 := (HBX.out.cell (p := ⟨b2, o2 + k * 2, none⟩) hb2w).trans q0
          have s1 := (HBX.out.cell (p := ⟨b2, o2 + k * 2 + 1, none⟩) hb2w).trans q1
          clear p0 p1 q0 q1
          obtain ⟨_, s2, _, _⟩ := row2 ((HBX.out.block g10 (heapE_lt o10.out)).trans o10.out)
          obtain ⟨s3, _⟩ := row1f ((HBX.out.block w.heap.size (heapE_lt oc.out)).trans oc.out)
          obtain ⟨s4, s5, _, _⟩ := row2 X0.out
          have HI1 := Lib.hid (linked_any (i := (a : Int)) (j := (b : Int)) (HP6.out.below (HBX6.out.trans (Below.drewN' (Below.refl _ X) 1 |>.mono HBX6.out.size))))
          rw [HLK.out] at HI1
          go_wp2_with fail
          go_region_held3 (fun W' => W'.cell? ⟨b2, o2 + k * 2, none⟩ = some (.int .i64 (a : Int)) ∧ W'.cell? ⟨b2, o2 + k * 2 + 1, none⟩ = some (.int .i64 (b : Int)) ∧ W'.cell? ⟨g10, 1, none⟩ = some (.slice (some ⟨b2, o2, none⟩) (grE l).length c2) ∧ W'.cell? ⟨w.heap.size, 0, none⟩ = some (.slice A n' c) ∧ W'.cell? ⟨wo.heap.size, 0, none⟩ = some (.int .i64 (a : Int)) ∧ W'.cell? ⟨wo.heap.size, 1, none⟩ = some (.int .i64 (b : Int))) ((first | exact ⟨s0, s1, s2, s3, s4, s5⟩ | exact ⟨u0, u1, u2, u3, u4, u5⟩ | go_keep)) (first
            | (go_at_call 16; refine HI1.out.mono ?_; rintro e we ⟨rfl, hb'⟩; (have HBe : Hid (Below X.heap.size X we) := Lib.hid ((Below.drewN' (Below.refl _ X) 1).trans hb')); clear hb'; (have HBe2 : Hid (Below wo.heap.size wo we) := Lib.hid (HBX.out.trans (HBe.out.mono HBX.out.size))); (have u0 := (HBe.out.cell (p := ⟨b2, o2 + k * 2, none⟩) (Nat.lt_of_lt_of_le hb2w HBX.out.size)).trans s0); (have u1 := (HBe.out.cell (p := ⟨b2, o2 + k * 2 + 1, none⟩) (Nat.lt_of_lt_of_le hb2w HBX.out.size)).trans s1); (obtain ⟨_, u2, _, _⟩ := row2 ((HBe2.out.block g10 (heapE_lt o10.out)).trans o10.out)); (obtain ⟨u3, _⟩ := row1f ((HBe2.out.block w.heap.size (heapE_lt oc.out)).trans oc.out)); (obtain ⟨u4, u5, _, _⟩ := row2 ((HBe.out.block wo.heap.size (heapE_lt X0.out)).trans X0.out))))
          clear s0 s1 s2 s3 s4 s5 u0 u1 u2 u3 u4 u5 HI1
          go_wp2_with fail
          go_roundw
          case rel => exact ⟨k + 1, by omega, by go_num, Lib.hid (HBr.out.trans (HBe2.out.mono HBr.out.size))⟩
          case measure => simp [intOf]; omega
        · have hd : decide ((k : Int) < ((grE l).length : Int)) = false := by simp; omega
          have hki : ¬ (k : Int) < ((grE l).length : Int) := by omega
          obtain ⟨a0, a1, _, _⟩ := row2 o9.out
          have HGO := Lib.hid (ck_ok HCK.out).2
          have HLN : Hid (l.length = n') := Lib.hid HP6.out.rd.1
          have HOR := Lib.hid (order_any (c := c1) HX1.out (by have := grE_inN l; rw [HLN.out] at this; exact this) (by have := HP6.out.n16; omega) (by have := HLEN.out; omega) HBo.out.size)
          have HB8 : Hid (Below w.heap.size w wo) := Lib.hid (HB6.out.trans (HBo.out.mono HB6.out.size))
          go_wp2_with fail
          refine HOR.out.mono ?_
          rintro e w9 ⟨hb, ho⟩
          have HB9 : Hid (Below w.heap.size w w9) := Lib.hid (HB8.out.trans (hb.mono HB8.out.size))
          clear hb HOR a0 a1
          rcases ho with ⟨_, A3, c3, rfl, _⟩ | ⟨hg, _⟩
          · go_wp2_with fail
            exact bodyPost_ret (results_tmp rfl _ _ _) rfl ⟨rfl, HB9.out⟩
          · exact absurd (by have := HGO.out; rw [HLN.out] at this; exact this) hg
end Go.Proofs.YtebflhlgcpbikaaGreat
