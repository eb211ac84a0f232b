/-
  CatalogSettled, over this translation.
-/
import Derived.Test.YtebflhlgcpbikaaGreatCAn
import Derived.Test.YtebflhlgcpbikaaGreatCRg
import Derived.Test.YtebflhlgcpbikaaGreatCQt
namespace Go.Proofs.YtebflhlgcpbikaaGreat
open Go.RowKit
open SemP FlP GaP DiP
set_option linter.unusedVariables false
set_option linter.unusedSimpArgs false
set_option maxRecDepth 10000
theorem stand_up {l : List Sv} {vs : List Int} {k : Nat} (hl : LevOK l) (hs : SmCat l) (h : isR l (k : Int) (ix vs k) = true) : standC l (k : Int) ((setP l vs k).1, (setP l vs k).2 + 1) = true := by
  obtain ⟨h1, h2, h3, h4⟩ := setP_ok hl hs h
  have e1 : (setP l vs k).1 = ix vs k := rfl
  have e2 : (setP l vs k).2 = 2 * levAt l k (ix vs k).toNat := rfl
  unfold standC plB
  simp only
  rw [decide_eq_true h1, decide_eq_true (show 0 ≤ (setP l vs k).2 + 1 by omega), decide_eq_true (show (setP l vs k).1 ≤ 1048576 by omega), decide_eq_true (show (setP l vs k).2 + 1 ≤ 1048576 by omega)]
  rw [e1, h, e2, Int.toNat_natCast]
  rw [decide_eq_true (show -1 ≤ 2 * levAt l k (ix vs k).toNat + 1 - 2 * levAt l k (ix vs k).toNat by omega), decide_eq_true (show 2 * levAt l k (ix vs k).toNat + 1 - 2 * levAt l k (ix vs k).toNat ≤ 1 by omega)]
  rfl
theorem stand_down {l : List Sv} {vs : List Int} {k : Nat} (hl : LevOK l) (hs : SmCat l) (h : isR l (k : Int) (ix vs k) = true) : standC l (k : Int) ((setP l vs k).1, (setP l vs k).2 - 1) = decide (0 < (setP l vs k).2) := by
  obtain ⟨h1, h2, h3, h4⟩ := setP_ok hl hs h
  have e1 : (setP l vs k).1 = ix vs k := rfl
  have e2 : (setP l vs k).2 = 2 * levAt l k (ix vs k).toNat := rfl
  unfold standC plB
  simp only
  by_cases h0 : 0 < (setP l vs k).2
  · rw [decide_eq_true h0, decide_eq_true h1, decide_eq_true (show 0 ≤ (setP l vs k).2 - 1 by omega), decide_eq_true (show (setP l vs k).1 ≤ 1048576 by omega), decide_eq_true (show (setP l vs k).2 - 1 ≤ 1048576 by omega)]
    rw [e1, h, e2, Int.toNat_natCast]
    rw [decide_eq_true (show -1 ≤ 2 * levAt l k (ix vs k).toNat - 1 - 2 * levAt l k (ix vs k).toNat by omega), decide_eq_true (show 2 * levAt l k (ix vs k).toNat - 1 - 2 * levAt l k (ix vs k).toNat ≤ 1 by omega)]
    rfl
  · rw [decide_eq_false h0, decide_eq_false (show ¬ 0 ≤ (setP l vs k).2 - 1 by omega)]
    simp
theorem stand_far {l : List Sv} {vs : List Int} {k : Nat} : standC l (k : Int) ((setP l vs k).1, (setP l vs k).2 + 2) = false := by
  have e2 : (setP l vs k).2 = 2 * levAt l k (ix vs k).toNat := rfl
  have e1 : (setP l vs k).1 = ix vs k := rfl
  unfold standC
  simp only
  rw [e1, e2, Int.toNat_natCast, decide_eq_false (show ¬ 2 * levAt l k (ix vs k).toNat + 2 - 2 * levAt l k (ix vs k).toNat ≤ 1 by omega)]
  simp
theorem isR_neg' {l : List Sv} {i v : Int} (h : v < 0) : isR l i v = false := by
  unfold isR
  rw [decide_eq_false (show ¬ 0 ≤ v by omega)]
  simp
structure R21St (W : World) (pe : Nat) (V F : Int) (b0 b1 b2 b3 b4 b5 b6 b7 b8 b9 b10 b11 b12 b13 b14 b15 : Bool) (v15 v16 v96 v97 v98 v99 v100 v101 v102 v103 v104 v105 v106 v107 : Value) (w' : World) : Prop where
  q14 : b14 = true → b0 = true ∧ b1 = true ∧ b2 = true ∧ b3 = true ∧ b4 = true ∧ b5 = true ∧ b12 = true ∧ b13 = true
  q15 : b15 = true → b0 = true ∧ b1 = true ∧ b2 = true ∧ b3 = true ∧ b4 = true ∧ b5 = true ∧ b6 = true ∧ b7 = true ∧ b8 = true ∧ b9 = true ∧ b10 = true ∧ b11 = true ∧ b12 = true ∧ b13 = true ∧ b14 = true
  bel : Below W.heap.size W w'
  h0 : b0 = true → v96 = .pointer (some ⟨pe, 0, none⟩)
  h1 : b1 = true → v97 = .int .i64 V
  h2 : b2 = true → v98 = .pointer (some ⟨pe, 1, none⟩)
  h3 : b3 = true → v99 = .int .i64 F
  h4 : b4 = true → v100 = .int .i64 (F + 1)
  h5 : b5 = true → v101 = .agg #[.int .i64 V, .int .i64 (F + 1)]
  h6 : b6 = true → v102 = .pointer (some ⟨pe, 0, none⟩)
  h7 : b7 = true → v103 = .int .i64 V
  h8 : b8 = true → v104 = .pointer (some ⟨pe, 1, none⟩)
  h9 : b9 = true → v105 = .int .i64 F
  h10 : b10 = true → v106 = .int .i64 (F - 1)
  h11 : b11 = true → v107 = .agg #[.int .i64 V, .int .i64 (F - 1)]
  h12 : b12 = true → ∃ g, v15 = .pointer (some ⟨g, 0, none⟩) ∧ W.heap.size ≤ g ∧ w'.heap[g]? = some (.cells (if b14 then #[.int .i64 V, .int .i64 (F + 1)] else #[.int .i64 0, .int .i64 0]) 60 (0, 0))
  h13 : b13 = true → ∃ g, v16 = .pointer (some ⟨g, 0, none⟩) ∧ W.heap.size ≤ g ∧ w'.heap[g]? = some (.cells (if b15 then #[.int .i64 V, .int .i64 (F - 1)] else #[.int .i64 0, .int .i64 0]) 60 (0, 0))
  ne : b12 = true → b13 = true → v15 ≠ v16
theorem R21St.kept {W w' w'' : World} {pe : Nat} {V F : Int} {b0 b1 b2 b3 b4 b5 b6 b7 b8 b9 b10 b11 b12 b13 b14 b15 : Bool} {v15 v16 v96 v97 v98 v99 v100 v101 v102 v103 v104 v105 v106 v107 : Value} (h : R21St W pe V F b0 b1 b2 b3 b4 b5 b6 b7 b8 b9 b10 b11 b12 b13 b14 b15 v15 v16 v96 v97 v98 v99 v100 v101 v102 v103 v104 v105 v106 v107 w') (hb : Below w'.heap.size w' w'') : R21St W pe V F b0 b1 b2 b3 b4 b5 b6 b7 b8 b9 b10 b11 b12 b13 b14 b15 v15 v16 v96 v97 v98 v99 v100 v101 v102 v103 v104 v105 v106 v107 w'' :=
  { h with bel := h.bel.trans (hb.mono h.bel.size), h12 := fun q => (by
      obtain ⟨g, e, hs, r⟩ := h.h12 q
      exact ⟨g, e, hs, (hb.block g (heapE_lt r)).trans r⟩), h13 := fun q => (by
      obtain ⟨g, e, hs, r⟩ := h.h13 q
      exact ⟨g, e, hs, (hb.block g (heapE_lt r)).trans r⟩) }
inductive R21J (W : World) (pe : Nat) (V F : Int) (p0 p1 p2 p3 p4 p5 p6 p7 p8 p9 p10 p11 p12 p13 p14 p17 p18 p19 p20 p21 p22 p23 p24 p25 p26 p27 p28 p29 p30 p31 p32 p33 p34 p35 p36 p37 p38 p39 p40 p41 p42 p43 p44 p45 p46 p47 p48 p49 p50 p51 p52 p53 p54 p55 p56 p57 p58 p59 p60 p61 p62 p63 p64 p65 p66 p67 p68 p69 p70 p71 p72 p73 p74 p75 p76 p77 p78 p79 p80 p81 p82 p83 p84 p85 p86 p87 p88 p89 p90 p91 p92 p93 p94 p95 p108 p109 p110 p111 p112 p113 p114 p115 p116 p117 p118 p119 p120 p121 p122 p123 p124 p125 p126 p127 p128 p129 p130 p131 p132 p133 p134 p135 p136 p137 p138 p139 p140 p141 p142 p143 p144 p145 p146 p147 p148 p149 p150 p151 p152 p153 p154 p155 p156 p157 : Value) : Array Bool → Act → World → Prop where
  | mk (b0 b1 b2 b3 b4 b5 b6 b7 b8 b9 b10 b11 b12 b13 b14 b15 : Bool) (v15 v16 v96 v97 v98 v99 v100 v101 v102 v103 v104 v105 v106 v107 : Value) (w' : World) : R21St W pe V F b0 b1 b2 b3 b4 b5 b6 b7 b8 b9 b10 b11 b12 b13 b14 b15 v15 v16 v96 v97 v98 v99 v100 v101 v102 v103 v104 v105 v106 v107 w' → R21J W pe V F p0 p1 p2 p3 p4 p5 p6 p7 p8 p9 p10 p11 p12 p13 p14 p17 p18 p19 p20 p21 p22 p23 p24 p25 p26 p27 p28 p29 p30 p31 p32 p33 p34 p35 p36 p37 p38 p39 p40 p41 p42 p43 p44 p45 p46 p47 p48 p49 p50 p51 p52 p53 p54 p55 p56 p57 p58 p59 p60 p61 p62 p63 p64 p65 p66 p67 p68 p69 p70 p71 p72 p73 p74 p75 p76 p77 p78 p79 p80 p81 p82 p83 p84 p85 p86 p87 p88 p89 p90 p91 p92 p93 p94 p95 p108 p109 p110 p111 p112 p113 p114 p115 p116 p117 p118 p119 p120 p121 p122 p123 p124 p125 p126 p127 p128 p129 p130 p131 p132 p133 p134 p135 p136 p137 p138 p139 p140 p141 p142 p143 p144 p145 p146 p147 p148 p149 p150 p151 p152 p153 p154 p155 p156 p157 #[b0, b1, b2, b3, b4, b5, b6, b7, b8, b9, b10, b11, b12, b13, b14, b15] { tmps := List.toArray (p0 :: p1 :: p2 :: p3 :: p4 :: p5 :: p6 :: p7 :: p8 :: p9 :: p10 :: p11 :: p12 :: p13 :: p14 :: v15 :: v16 :: p17 :: p18 :: p19 :: p20 :: p21 :: p22 :: p23 :: p24 :: p25 :: p26 :: p27 :: p28 :: p29 :: p30 :: p31 :: p32 :: p33 :: p34 :: p35 :: p36 :: p37 :: p38 :: p39 :: p40 :: p41 :: p42 :: p43 :: p44 :: p45 :: p46 :: p47 :: p48 :: p49 :: p50 :: p51 :: p52 :: p53 :: p54 :: p55 :: p56 :: p57 :: p58 :: p59 :: p60 :: p61 :: p62 :: p63 :: p64 :: p65 :: p66 :: p67 :: p68 :: p69 :: p70 :: p71 :: p72 :: p73 :: p74 :: p75 :: p76 :: p77 :: p78 :: p79 :: p80 :: p81 :: p82 :: p83 :: p84 :: p85 :: p86 :: p87 :: p88 :: p89 :: p90 :: p91 :: p92 :: p93 :: p94 :: p95 :: v96 :: v97 :: v98 :: v99 :: v100 :: v101 :: v102 :: v103 :: v104 :: v105 :: v106 :: v107 :: p108 :: p109 :: p110 :: p111 :: p112 :: p113 :: p114 :: p115 :: p116 :: p117 :: p118 :: p119 :: p120 :: p121 :: p122 :: p123 :: p124 :: p125 :: p126 :: p127 :: p128 :: p129 :: p130 :: p131 :: p132 :: p133 :: p134 :: p135 :: p136 :: p137 :: p138 :: p139 :: p140 :: p141 :: p142 :: p143 :: p144 :: p145 :: p146 :: p147 :: p148 :: p149 :: p150 :: p151 :: p152 :: p153 :: p154 :: p155 :: p156 :: p157 :: []), defers := [] } w'
set_option maxHeartbeats 32000000 in
theorem law_settled {w : World} {n c : Nat} {A : Option Addr} {l : List Sv} {A2 : Option Addr} {m c2 : Nat} {vs : List Int} (hr : RdJ 2 svI w (fun b => w.heap.size ≤ b) A n l) (hcap : CapA A n c) (hvr : Rd w w.heap.size A2 m vs) (hm : LenAt w) (h1 : 1 < w.heap.size) :
    Calls Tryz.prog 6 #[.agg #[.slice A n c], .slice A2 m c2] w fun e w' => e = .returned (.bool true) ∧ Below w.heap.size w w' := by
  have HR := Lib.hid hr
  have HC := Lib.hid hcap
  have HVR := Lib.hid hvr
  obtain ⟨W, HW⟩ : ∃ W, Hid (W = w.alloc (.cells #[.slice A n c] 24)) := ⟨_, Lib.hid rfl⟩
  have hbW : Below w.heap.size w W := by rw [HW.out]; exact (Below.refl _ w).alloc (Nat.le_refl _) _
  have H0 : Hid (W.heap[w.heap.size]? = some (.cells #[.slice A n c] 24 (0, 0))) := Lib.hid (by rw [HW.out]; exact heap_new w _)
  have HLW := Lib.hid (LenAt.below hm h1 hbW)
  have HBW := Lib.hid hbW
  have hsz := hbW.size
  clear hr hcap hvr hm h1 hbW
  obtain ⟨x0, _⟩ := row1f H0.out
  have HAN := Lib.hid (canchor_any W HLW.out.1 HLW.out.2)
  go_enter Tryz.func6, Tryz.ntmps6
  go_upto_region 1 with fail
  change Code.wp _ _ _ _ (w.alloc (.cells #[.slice A n c] 24))
  rw [← HW.out]
  go_wp2_with fail
  refine HAN.out.mono ?_
  rintro e w1 ⟨rfl, hb⟩
  have HB1 : Hid (Below w.heap.size w w1) := Lib.hid (HBW.out.trans (hb.mono hsz))
  have HL1 := Lib.hid (LenAt.below HLW.out.1 HLW.out.2 hb)
  have K1 : Hid (w1.heap[w.heap.size]? = _) := Lib.hid ((hb.block w.heap.size (heapE_lt H0.out)).trans H0.out)
  clear hb x0 HAN
  obtain ⟨x0, _⟩ := row1f K1.out
  have HMC := Lib.hid (right_any (c := c) (RdJ.below sv_turns HR.out HB1.out) HB1.out.size HL1.out.1 HL1.out.2)
  go_wp2_with fail
  refine HMC.out.mono ?_
  rintro e z1 ⟨A', n', c', ok, rfl, hb, hit⟩
  obtain ⟨W2, HW2⟩ : ∃ W2, Hid (W2 = z1.alloc (.cells #[.slice A' n' c'] 28)) := ⟨_, Lib.hid rfl⟩
  have hb2 : Below z1.heap.size z1 W2 := by rw [HW2.out]; exact (Below.refl _ z1).alloc (Nat.le_refl _) _
  have J2 : Hid (W2.heap[z1.heap.size]? = some (.cells #[.slice A' n' c'] 28 (0, 0))) := Lib.hid (by rw [HW2.out]; exact heap_new z1 _)
  have hb12 : Below w1.heap.size w1 W2 := hb.trans (hb2.mono hb.size)
  have HB2 : Hid (Below w.heap.size w W2) := Lib.hid (HB1.out.trans (hb12.mono HB1.out.size))
  have HL2 := Lib.hid (LenAt.below HL1.out.1 HL1.out.2 hb12)
  have K2 : Hid (W2.heap[w.heap.size]? = _) := Lib.hid ((hb12.block w.heap.size (heapE_lt K1.out)).trans K1.out)
  have HIT := Lib.hid (fun h => And.intro (And.intro (hit h).1 (hit h).2.1) (ss_turns.kept (hit h).2.2 hb2))
  clear hb hb2 hb12 hit x0 HMC
  go_upto_region 4 with fail
  change Code.wp _ _ _ _ (z1.alloc (.cells #[.slice A' n' c'] 28))
  rw [← HW2.out]
  cases ok with
  | false =>
    go_wp2_with fail
    refine bodyPost_ret (results_tmp rfl _ _ _) rfl ⟨rfl, HB2.out⟩
  | true =>
    obtain ⟨⟨hck, hsm⟩, hss⟩ := HIT.out rfl
    obtain ⟨hcap', hrd'⟩ := (ss_turns.go hss (FrM.refl W2 _) (M' := fun b => W2.heap.size ≤ b) (fun b hb => .inr hb)).rd
    have HP : Hid (CatAt W2 w.heap.size A n c l) := Lib.hid ⟨RdJ.below sv_turns HR.out HB2.out, HC.out, HB2.out.size, hsm, HL2.out.1, HL2.out.2⟩
    have HQ : Hid (CatAt W2 W2.heap.size A' n' c' l) := Lib.hid ⟨hrd', hcap', Nat.le_refl _, hsm, HL2.out.1, HL2.out.2⟩
    obtain rfl : n' = n := by rw [← HQ.out.rd.1, ← HP.out.rd.1]
    have HCK := Lib.hid hck
    have HSM := Lib.hid hsm
    have HLV := Lib.hid (ck_lev hck)
    have HN : Hid (l.length = n') := Lib.hid HP.out.rd.1
    have HV2 := Lib.hid (Rd.below HVR.out HB2.out)
    have HVL : Hid (vs.length = m) := Lib.hid HVR.out.len
    clear hsm hss hcap' hrd' HIT hck
    obtain ⟨x0, _⟩ := row1f K2.out
    obtain ⟨y0, _⟩ := row1f J2.out
    by_cases h20 : 20 < m
    · have d1 : decide ((20 : Int) < (m : Int)) = true := by simp; omega
      go_wp2_with fail
      exact bodyPost_ret (results_tmp rfl _ _ _) rfl ⟨rfl, HB2.out⟩
    have d1 : decide ((20 : Int) < (m : Int)) = false := by simp; omega
    have HM20 : Hid (m ≤ 20) := Lib.hid (by omega)
    have HST := Lib.hid (settled_any (c2 := c2) HP.out HLV.out HV2.out HB2.out.size HM20.out)
    go_wp2_with fail
    refine HST.out.mono ?_
    rintro e w3 ⟨hb, ho⟩
    have HB3 : Hid (Below w.heap.size w w3) := Lib.hid (HB2.out.trans (hb.mono HB2.out.size))
    have HP3 := Lib.hid (HP.out.below hb)
    have HQ3 := Lib.hid (HQ.out.below hb)
    have K3 : Hid (w3.heap[w.heap.size]? = _) := Lib.hid ((hb.block w.heap.size (heapE_lt K2.out)).trans K2.out)
    have J3 : Hid (w3.heap[z1.heap.size]? = _) := Lib.hid ((hb.block z1.heap.size (heapE_lt J2.out)).trans J2.out)
    clear hb x0 y0 HST
    obtain ⟨A5, m5, c5, e5, rfl, hq5⟩ : ∃ A5 m5 c5 e5, e = .returned (.tuple #[.slice A5 m5 c5, .int .i64 e5]) ∧ ((setB l vs = true ∧ m5 = m ∧ e5 = 0 ∧ OwnZc w3 W2.heap.size (.slice A5 m c5) m (setL l vs)) ∨ (setB l vs = false ∧ m5 = 0 ∧ e5 = 42)) := by
      rcases ho with ⟨h1, A5, c5, h2, h3⟩ | ⟨h1, h2⟩
      · exact ⟨A5, m, c5, 0, h2, .inl ⟨h1, rfl, rfl, h3⟩⟩
      · exact ⟨none, 0, 0, 42, h2, .inr ⟨h1, rfl, rfl⟩⟩
    have HQ5 := Lib.hid hq5
    clear ho hq5
    obtain ⟨y0, _⟩ := row1f J3.out
    obtain ⟨qe, HQE⟩ : ∃ qe, Hid (decide (m = n') = qe) := ⟨_, Lib.hid rfl⟩
    have hqe : ((m : Int) == (n' : Int)) = qe := by
      rw [← HQE.out]
      by_cases e : m = n'
      · subst e; simp
      · rw [decide_eq_false e, beq_eq_false_iff_ne]; omega
    go_wp2_with fail
    go_loopw [9, 10, 11, 46] (fun b _ _ vk wr => ∃ (k : Nat) (q : Bool), k ≤ m ∧ vk = .int .i64 (k : Int) ∧ b = .bool q ∧ wr = w3 ∧ Hid ((qe && (List.range k).all (fun i => isR l (i : Int) (ix vs i))) = q)) (fun _ _ _ vk _ => m - (intOf vk).toNat)
    case atStart => exact ⟨0, qe, Nat.zero_le _, rfl, rfl, rfl, Lib.hid (by simp)⟩
    case round =>
      obtain ⟨k, q, hk, rfl, rfl, hw3, HALL⟩ := hrel
      subst hw3
      obtain ⟨w3, hw3⟩ : ∃ x, x = wr := ⟨_, rfl⟩
      subst hw3
      by_cases hkm : k < m
      · have hd : decide ((k : Int) < (m : Int)) = true := by simp; omega
        have hki : (k : Int) < (m : Int) := by omega
        have hk0 : (0 : Int) ≤ (k : Int) := by omega
        have hadd : IntKind.i64.wrap ((k : Int) + 1) = ((k + 1 : Nat) : Int) := by rw [IntWalk.i64_in _ (by have := HM20.out; omega)]; omega
        obtain ⟨b4, o4, rfl, hb4, p0⟩ := (Rd.below HVR.out HB3.out).at_ hkm
        obtain ⟨u, HU⟩ : ∃ u, Hid (ix vs k = u) := ⟨_, Lib.hid rfl⟩
        rw [HU.out] at p0
        have HSU : Hid ((qe && (List.range (k + 1)).all (fun i => isR l (i : Int) (ix vs i))) = (q && isR l (k : Int) u)) := Lib.hid (by
          rw [List.range_succ, List.all_append, ← Bool.and_assoc, HALL.out]; simp [HU.out])
        cases q with
        | false =>
          go_wp2_with fail
          go_roundw
          case rel => exact ⟨k + 1, false, by omega, by go_num, rfl, (by first | rfl | trivial), Lib.hid (by rw [HSU.out]; rfl)⟩
          case measure => simp [intOf]; omega
        | true =>
          have HMN : Hid (m = n') := Lib.hid (by
            have h1 := HALL.out
            rw [Bool.and_eq_true] at h1
            rw [← HQE.out] at h1
            exact of_decide_eq_true h1.1)
          by_cases hu0 : 0 ≤ u
          · have d2 : decide (0 ≤ u) = true := decide_eq_true hu0
            have hkn : (k : Int) < (n' : Int) := by have := HMN.out; omega
            have HKN : Hid (k < n') := Lib.hid (by omega)
            obtain ⟨b1, o1, Ai, ni, ci, hA, hb1, _, k1, _, hri⟩ := sv_at HQ3.out.rd HKN.out
            subst hA
            have hb1w : b1 < w3.heap.size := by have := HQ3.out.le; omega
            have HNI : Hid ((svAt l k).2.length = ni) := Lib.hid hri.1
            clear hri
            have HIS : Hid (isR l (k : Int) u = decide (u < (ni : Int))) := Lib.hid (by
              unfold isR isS
              rw [Int.toNat_natCast, HNI.out, d2, HN.out, decide_eq_true hk0, decide_eq_true hkn]; rfl)
            go_wp2_with fail
            go_roundw
            case rel => exact ⟨k + 1, _, by omega, by go_num, rfl, (by first | rfl | trivial), Lib.hid (by rw [HSU.out, HIS.out]; rfl)⟩
            case measure => simp [intOf]; omega
          · have d2 : decide (0 ≤ u) = false := decide_eq_false hu0
            have HIS : Hid (isR l (k : Int) u = false) := Lib.hid (isR_neg' (by omega))
            go_wp2_with fail
            go_roundw
            case rel => exact ⟨k + 1, false, by omega, by go_num, rfl, (by first | rfl | trivial), Lib.hid (by rw [HSU.out, HIS.out]; rfl)⟩
            case measure => simp [intOf]; omega
      · have hd : decide ((k : Int) < (m : Int)) = false := by simp; omega
        obtain rfl : k = m := by omega
        have HSB : Hid (setB l vs = q) := Lib.hid (by
          rw [← HALL.out]; unfold setB
          rw [HVL.out, HN.out, HQE.out])
        cases q with
        | false =>
          obtain ⟨h1, _⟩ | ⟨_, rfl, rfl⟩ := HQ5.out
          · rw [HSB.out] at h1; cases h1
          go_wp2_with fail
          exact bodyPost_ret (results_tmp rfl _ _ _) rfl ⟨rfl, HB3.out⟩
        | true =>
          obtain ⟨_, rfl, rfl, hown⟩ | ⟨h1, _⟩ := HQ5.out
          rotate_left
          · rw [HSB.out] at h1; cases h1
          have HO3 := Lib.hid hown
          have HALLR := Lib.hid (setB_iff.1 HSB.out).2
          have HSQ := Lib.hid (settledQ_any (c2 := c2) HQ3.out HLV.out (Rd.below HVR.out HB3.out) HB3.out.size HM20.out HSB.out)
          clear hown HQ5
          have hmm : ((m5 : Int) != (m5 : Int)) = false := by simp
          go_wp2_with fail
          refine HSQ.out.mono ?_
          rintro e w4 ⟨A8, c8, rfl, hrd8, hb⟩
          have HB4 : Hid (Below w.heap.size w w4) := Lib.hid (HB3.out.trans (hb.mono HB3.out.size))
          have HP4 := Lib.hid (HP3.out.below hb)
          have HO4 := Lib.hid (HO3.out.kept hb)
          have HR8 := Lib.hid hrd8
          have K4 : Hid (w4.heap[w.heap.size]? = _) := Lib.hid ((hb.block w.heap.size (heapE_lt K3.out)).trans K3.out)
          clear hb hrd8 y0 HSQ
          go_wp2_with fail
          go_loopw [13, 14, 15, 16, 17, 91] (fun _ _ _ _ _ vk wr => ∃ k : Nat, k ≤ m5 ∧ vk = .int .i64 (k : Int) ∧ Hid (Below w4.heap.size w4 wr)) (fun _ _ _ _ _ vk _ => m5 - (intOf vk).toNat)
          case atStart => exact ⟨0, Nat.zero_le _, rfl, Lib.hid (Below.refl _ _)⟩
          case round =>
            obtain ⟨wo, hwo⟩ : ∃ x, x = wr := ⟨_, rfl⟩
            subst hwo
            obtain ⟨k, hk, rfl, HBo⟩ := hrel
            have HB9 : Hid (Below w.heap.size w wo) := Lib.hid (HB4.out.trans (HBo.out.mono HB4.out.size))
            by_cases hkm : k < m5
            · have hd : decide ((k : Int) < (m5 : Int)) = true := by simp; omega
              have hki : (k : Int) < (m5 : Int) := by omega
              have hk0 : (0 : Int) ≤ (k : Int) := by omega
              have hadd : IntKind.i64.wrap ((k : Int) + 1) = ((k + 1 : Nat) : Int) := by rw [IntWalk.i64_in _ (by have := HM20.out; omega)]; omega
              have HKL : Hid (k < vs.length) := Lib.hid (by rw [HVL.out]; exact hkm)
              have HIR := Lib.hid (HALLR.out k HKL.out)
              obtain ⟨b8, o8, us, hA8, hb8, _, _, hc8, hit8⟩ := (RdJ.turn pr_turns HR8.out (w' := wo) (M' := fun b => b < w3.heap.size) ⟨HBo.out.size, fun b hlt _ => HBo.out.block b hlt⟩ (fun b hb => .inl hb)).2 k hkm
              subst hA8
              obtain ⟨V, HVV⟩ : ∃ V, Hid ((setP l vs k).1 = V) := ⟨_, Lib.hid rfl⟩
              obtain ⟨F, HFF⟩ : ∃ F, Hid ((setP l vs k).2 = F) := ⟨_, Lib.hid rfl⟩
              have HSP : Hid (setP l vs k = (V, F)) := Lib.hid (by rw [← HVV.out, ← HFF.out])
              have HBD := Lib.hid (setP_ok HLV.out HSM.out HIR.out)
              have hitE : us = [.int .i64 V, .int .i64 F] := by
                have h1 : us = [.int .i64 (((setL l vs).getD k default).1), .int .i64 (((setL l vs).getD k default).2)] := hit8
                have h2 : (setL l vs).getD k default = setP l vs k := setL_at l vs HKL.out
                rw [h2, HSP.out] at h1; exact h1
              subst hitE
              rw [HVV.out, HFF.out] at HBD
              have p0 := hc8 0 _ rfl
              have p1 := hc8 1 _ rfl
              simp only [Nat.add_zero] at p0
              obtain ⟨bl, ol, hA5, hbl, pz⟩ := (RdZc.of_own (HO4.out.kept HBo.out)).at_ hkm
              subst hA5
              have pz' : wo.cell? ⟨bl, ol + k, none⟩ = some (cv (V, F)) := by rw [setL_at l vs HKL.out, HSP.out] at pz; exact pz
              have PZ := Lib.hid pz'
              have HS0 : Hid (standC l (k : Int) (V, F) = true) := Lib.hid (by rw [← HSP.out]; exact stand_set HLV.out HSM.out HIR.out)
              have HSU : Hid (standC l (k : Int) (V, F + 1) = true) := Lib.hid (by rw [← HVV.out, ← HFF.out]; exact stand_up HLV.out HSM.out HIR.out)
              have HSD0 : Hid (standC l (k : Int) (V, F - 1) = decide (0 < F)) := Lib.hid (by rw [← HVV.out, ← HFF.out]; exact stand_down HLV.out HSM.out HIR.out)
              have HSF : Hid (standC l (k : Int) (V, F + 2) = false) := Lib.hid (by rw [← HVV.out, ← HFF.out]; exact stand_far)
              have HPB : Hid (V.natAbs < 2 ^ 53 ∧ F.natAbs < 2 ^ 53 ∧ (F + 1).natAbs < 2 ^ 53 ∧ (F - 1).natAbs < 2 ^ 53 ∧ (F + 2).natAbs < 2 ^ 53) := Lib.hid (by have := HBD.out; omega)
              have hw1 : IntKind.i64.wrap (F + 1) = F + 1 := IntWalk.i64_in _ (by have := HBD.out; omega)
              have hw2 : IntKind.i64.wrap (F - 1) = F - 1 := IntWalk.i64_in _ (by have := HBD.out; omega)
              have hw3 : IntKind.i64.wrap (F + 2) = F + 2 := IntWalk.i64_in _ (by have := HBD.out; omega)
              obtain ⟨X, HX⟩ : ∃ X, Hid (X = wo.alloc (.cells #[.int .i64 V, .int .i64 F] 60)) := ⟨_, Lib.hid rfl⟩
              have hbx : Below wo.heap.size wo X := by rw [HX.out]; exact (Below.refl _ wo).alloc (Nat.le_refl _) _
              have X0 : Hid (X.heap[wo.heap.size]? = some (.cells #[.int .i64 V, .int .i64 F] 60 (0, 0))) := Lib.hid (by rw [HX.out]; exact heap_new wo _)
              have HBX := Lib.hid hbx
              clear hbx pz pz' hc8 hit8
              go_upto_region 21 with fail
              change Code.wp _ _ _ _ (wo.alloc (.cells #[.int .i64 V, .int .i64 F] 60))
              rw [← HX.out]
              clear p0 p1
              obtain ⟨xa, xb, _, _⟩ := row2 X0.out
              refine wp_region_inv (by kernel_rfl) (I := R21J X wo.heap.size V F _ _ _ _ _ _ _ _ _ _ _ _ _ _ _ _ _ _ _ _ _ _ _ _ _ _ _ _ _ _ _ _ _ _ _ _ _ _ _ _ _ _ _ _ _ _ _ _ _ _ _ _ _ _ _ _ _ _ _ _ _ _ _ _ _ _ _ _ _ _ _ _ _ _ _ _ _ _ _ _ _ _ _ _ _ _ _ _ _ _ _ _ _ _ _ _ _ _ _ _ _ _ _ _ _ _ _ _ _ _ _ _ _ _ _ _ _ _ _ _ _ _ _ _ _ _ _ _ _ _ _ _ _ _ _ _ _ _ _ _ _ _ _ _) (.mk false false false false false false false false false false false false false false false false _ _ _ _ _ _ _ _ _ _ _ _ _ _ _ ⟨nofun, nofun, (Below.refl _ X).drew, nofun, nofun, nofun, nofun, nofun, nofun, nofun, nofun, nofun, nofun, nofun, nofun, nofun, nofun, nofun⟩) ?step ?fin
              case step =>
                rintro lq a' w' ix ⟨b0, b1, b2, b3, b4, b5, b6, b7, b8, b9, b10, b11, b12, b13, b14, b15, v15, v16, v96, v97, v98, v99, v100, v101, v102, v103, v104, v105, v106, v107, _, HT⟩ hi
                obtain ⟨hi_, hib⟩ := ready_lt hi
                match ix, hi_, hi, hib with
                | 0, _, hi, hib =>
                  obtain rfl : b0 = false := by simpa using hib
                  obtain rfl : b14 = false := by
                    cases hbq : b14 with
                    | false => rfl
                    | true => have h := (HT.q14 hbq).1; cases h
                  obtain rfl : b15 = false := by
                    cases hbq : b15 with
                    | false => rfl
                    | true => have h := (HT.q15 hbq).1; cases h
                  have HTH := Lib.hid HT
                  clear HT
                  refine wpOp_one rfl rfl (fun K hK => ?_)
                  go_simp
                  exact hK.out _ _ (.mk true b1 b2 b3 b4 b5 b6 b7 b8 b9 b10 b11 b12 b13 false false _ _ _ _ _ _ _ _ _ _ _ _ _ _ _ { HTH.out with q14 := nofun, q15 := nofun, h0 := fun _ => rfl })
                | 1, _, hi, hib =>
                  obtain rfl : b1 = false := by simpa using hib
                  obtain rfl : b14 = false := by
                    cases hbq : b14 with
                    | false => rfl
                    | true => have h := (HT.q14 hbq).2.1; cases h
                  obtain rfl : b15 = false := by
                    cases hbq : b15 with
                    | false => rfl
                    | true => have h := (HT.q15 hbq).2.1; cases h
                  have d0 : b0 = true := ready_dep hi rfl 0 (by kernel_rfl)
                  have e0 := HT.h0 d0
                  subst e0
                  have z0 := (HT.bel.cell (p := ⟨wo.heap.size, 0, none⟩) (heapE_lt X0.out)).trans xa
                  have HTH := Lib.hid HT
                  clear HT
                  refine wpOp_one rfl rfl (fun K hK => ?_)
                  go_simp
                  exact hK.out _ _ (.mk b0 true b2 b3 b4 b5 b6 b7 b8 b9 b10 b11 b12 b13 false false _ _ _ _ _ _ _ _ _ _ _ _ _ _ _ { HTH.out with q14 := nofun, q15 := nofun, h1 := fun _ => rfl })
                | 2, _, hi, hib =>
                  obtain rfl : b2 = false := by simpa using hib
                  obtain rfl : b14 = false := by
                    cases hbq : b14 with
                    | false => rfl
                    | true => have h := (HT.q14 hbq).2.2.1; cases h
                  obtain rfl : b15 = false := by
                    cases hbq : b15 with
                    | false => rfl
                    | true => have h := (HT.q15 hbq).2.2.1; cases h
                  have HTH := Lib.hid HT
                  clear HT
                  refine wpOp_one rfl rfl (fun K hK => ?_)
                  go_simp
                  exact hK.out _ _ (.mk b0 b1 true b3 b4 b5 b6 b7 b8 b9 b10 b11 b12 b13 false false _ _ _ _ _ _ _ _ _ _ _ _ _ _ _ { HTH.out with q14 := nofun, q15 := nofun, h2 := fun _ => rfl })
                | 3, _, hi, hib =>
                  obtain rfl : b3 = false := by simpa using hib
                  obtain rfl : b14 = false := by
                    cases hbq : b14 with
                    | false => rfl
                    | true => have h := (HT.q14 hbq).2.2.2.1; cases h
                  obtain rfl : b15 = false := by
                    cases hbq : b15 with
                    | false => rfl
                    | true => have h := (HT.q15 hbq).2.2.2.1; cases h
                  have d2 : b2 = true := ready_dep hi rfl 2 (by kernel_rfl)
                  have e2 := HT.h2 d2
                  subst e2
                  have z0 := (HT.bel.cell (p := ⟨wo.heap.size, 1, none⟩) (heapE_lt X0.out)).trans xb
                  have HTH := Lib.hid HT
                  clear HT
                  refine wpOp_one rfl rfl (fun K hK => ?_)
                  go_simp
                  exact hK.out _ _ (.mk b0 b1 b2 true b4 b5 b6 b7 b8 b9 b10 b11 b12 b13 false false _ _ _ _ _ _ _ _ _ _ _ _ _ _ _ { HTH.out with q14 := nofun, q15 := nofun, h3 := fun _ => rfl })
                | 4, _, hi, hib =>
                  obtain rfl : b4 = false := by simpa using hib
                  obtain rfl : b14 = false := by
                    cases hbq : b14 with
                    | false => rfl
                    | true => have h := (HT.q14 hbq).2.2.2.2.1; cases h
                  obtain rfl : b15 = false := by
                    cases hbq : b15 with
                    | false => rfl
                    | true => have h := (HT.q15 hbq).2.2.2.2.1; cases h
                  have d3 : b3 = true := ready_dep hi rfl 3 (by kernel_rfl)
                  have e3 := HT.h3 d3
                  subst e3
                  have HTH := Lib.hid HT
                  clear HT
                  refine wpOp_one rfl rfl (fun K hK => ?_)
                  go_simp
                  exact hK.out _ _ (.mk b0 b1 b2 b3 true b5 b6 b7 b8 b9 b10 b11 b12 b13 false false _ _ _ _ _ _ _ _ _ _ _ _ _ _ _ { HTH.out with q14 := nofun, q15 := nofun, h4 := fun _ => rfl })
                | 5, _, hi, hib =>
                  obtain rfl : b5 = false := by simpa using hib
                  obtain rfl : b14 = false := by
                    cases hbq : b14 with
                    | false => rfl
                    | true => have h := (HT.q14 hbq).2.2.2.2.2.1; cases h
                  obtain rfl : b15 = false := by
                    cases hbq : b15 with
                    | false => rfl
                    | true => have h := (HT.q15 hbq).2.2.2.2.2.1; cases h
                  have d1 : b1 = true := ready_dep hi rfl 1 (by kernel_rfl)
                  have d4 : b4 = true := ready_dep hi rfl 4 (by kernel_rfl)
                  have e1 := HT.h1 d1
                  subst e1
                  have e4 := HT.h4 d4
                  subst e4
                  have HTH := Lib.hid HT
                  clear HT
                  refine wpOp_one rfl rfl (fun K hK => ?_)
                  go_simp
                  exact hK.out _ _ (.mk b0 b1 b2 b3 b4 true b6 b7 b8 b9 b10 b11 b12 b13 false false _ _ _ _ _ _ _ _ _ _ _ _ _ _ _ { HTH.out with q14 := nofun, q15 := nofun, h5 := fun _ => rfl })
                | 6, _, hi, hib =>
                  obtain rfl : b6 = false := by simpa using hib
                  obtain rfl : b15 = false := by
                    cases hbq : b15 with
                    | false => rfl
                    | true => have h := (HT.q15 hbq).2.2.2.2.2.2.1; cases h
                  have HTH := Lib.hid HT
                  clear HT
                  refine wpOp_one rfl rfl (fun K hK => ?_)
                  go_simp
                  exact hK.out _ _ (.mk b0 b1 b2 b3 b4 b5 true b7 b8 b9 b10 b11 b12 b13 b14 false _ _ _ _ _ _ _ _ _ _ _ _ _ _ _ { HTH.out with q15 := nofun, h6 := fun _ => rfl })
                | 7, _, hi, hib =>
                  obtain rfl : b7 = false := by simpa using hib
                  obtain rfl : b15 = false := by
                    cases hbq : b15 with
                    | false => rfl
                    | true => have h := (HT.q15 hbq).2.2.2.2.2.2.2.1; cases h
                  have d6 : b6 = true := ready_dep hi rfl 6 (by kernel_rfl)
                  have e6 := HT.h6 d6
                  subst e6
                  have z0 := (HT.bel.cell (p := ⟨wo.heap.size, 0, none⟩) (heapE_lt X0.out)).trans xa
                  have HTH := Lib.hid HT
                  clear HT
                  refine wpOp_one rfl rfl (fun K hK => ?_)
                  go_simp
                  exact hK.out _ _ (.mk b0 b1 b2 b3 b4 b5 b6 true b8 b9 b10 b11 b12 b13 b14 false _ _ _ _ _ _ _ _ _ _ _ _ _ _ _ { HTH.out with q15 := nofun, h7 := fun _ => rfl })
                | 8, _, hi, hib =>
                  obtain rfl : b8 = false := by simpa using hib
                  obtain rfl : b15 = false := by
                    cases hbq : b15 with
                    | false => rfl
                    | true => have h := (HT.q15 hbq).2.2.2.2.2.2.2.2.1; cases h
                  have HTH := Lib.hid HT
                  clear HT
                  refine wpOp_one rfl rfl (fun K hK => ?_)
                  go_simp
                  exact hK.out _ _ (.mk b0 b1 b2 b3 b4 b5 b6 b7 true b9 b10 b11 b12 b13 b14 false _ _ _ _ _ _ _ _ _ _ _ _ _ _ _ { HTH.out with q15 := nofun, h8 := fun _ => rfl })
                | 9, _, hi, hib =>
                  obtain rfl : b9 = false := by simpa using hib
                  obtain rfl : b15 = false := by
                    cases hbq : b15 with
                    | false => rfl
                    | true => have h := (HT.q15 hbq).2.2.2.2.2.2.2.2.2.1; cases h
                  have d8 : b8 = true := ready_dep hi rfl 8 (by kernel_rfl)
                  have e8 := HT.h8 d8
                  subst e8
                  have z0 := (HT.bel.cell (p := ⟨wo.heap.size, 1, none⟩) (heapE_lt X0.out)).trans xb
                  have HTH := Lib.hid HT
                  clear HT
                  refine wpOp_one rfl rfl (fun K hK => ?_)
                  go_simp
                  exact hK.out _ _ (.mk b0 b1 b2 b3 b4 b5 b6 b7 b8 true b10 b11 b12 b13 b14 false _ _ _ _ _ _ _ _ _ _ _ _ _ _ _ { HTH.out with q15 := nofun, h9 := fun _ => rfl })
                | 10, _, hi, hib =>
                  obtain rfl : b10 = false := by simpa using hib
                  obtain rfl : b15 = false := by
                    cases hbq : b15 with
                    | false => rfl
                    | true => have h := (HT.q15 hbq).2.2.2.2.2.2.2.2.2.2.1; cases h
                  have d9 : b9 = true := ready_dep hi rfl 9 (by kernel_rfl)
                  have e9 := HT.h9 d9
                  subst e9
                  have HTH := Lib.hid HT
                  clear HT
                  refine wpOp_one rfl rfl (fun K hK => ?_)
                  go_simp
                  exact hK.out _ _ (.mk b0 b1 b2 b3 b4 b5 b6 b7 b8 b9 true b11 b12 b13 b14 false _ _ _ _ _ _ _ _ _ _ _ _ _ _ _ { HTH.out with q15 := nofun, h10 := fun _ => rfl })
                | 11, _, hi, hib =>
                  obtain rfl : b11 = false := by simpa using hib
                  obtain rfl : b15 = false := by
                    cases hbq : b15 with
                    | false => rfl
                    | true => have h := (HT.q15 hbq).2.2.2.2.2.2.2.2.2.2.2.1; cases h
                  have d7 : b7 = true := ready_dep hi rfl 7 (by kernel_rfl)
                  have d10 : b10 = true := ready_dep hi rfl 10 (by kernel_rfl)
                  have e7 := HT.h7 d7
                  subst e7
                  have e10 := HT.h10 d10
                  subst e10
                  have HTH := Lib.hid HT
                  clear HT
                  refine wpOp_one rfl rfl (fun K hK => ?_)
                  go_simp
                  exact hK.out _ _ (.mk b0 b1 b2 b3 b4 b5 b6 b7 b8 b9 b10 true b12 b13 b14 false _ _ _ _ _ _ _ _ _ _ _ _ _ _ _ { HTH.out with q15 := nofun, h11 := fun _ => rfl })
                | 12, _, hi, hib =>
                  obtain rfl : b12 = false := by simpa using hib
                  obtain rfl : b14 = false := by
                    cases hbq : b14 with
                    | false => rfl
                    | true => have h := (HT.q14 hbq).2.2.2.2.2.2.1; cases h
                  obtain rfl : b15 = false := by
                    cases hbq : b15 with
                    | false => rfl
                    | true => have h := (HT.q15 hbq).2.2.2.2.2.2.2.2.2.2.2.2.1; cases h
                  have HTH := Lib.hid HT
                  clear HT
                  refine wpOp_one rfl rfl (fun K hK => ?_)
                  go_simp
                  have hba : Below w'.heap.size w' (w'.alloc (.cells #[.int .i64 0, .int .i64 0] 60)) := (Below.refl _ w').alloc (Nat.le_refl _) _
                  exact hK.out _ _ (.mk b0 b1 b2 b3 b4 b5 b6 b7 b8 b9 b10 b11 true b13 false false _ _ _ _ _ _ _ _ _ _ _ _ _ _ _ { HTH.out.kept hba with q14 := nofun, q15 := nofun, h12 := fun _ => ⟨w'.heap.size, rfl, HTH.out.bel.size, heap_new w' _⟩, ne := fun _ h13 => (by obtain ⟨g, e, _, r⟩ := HTH.out.h13 h13; rw [e]; intro h; injection h with h; injection h with h; injection h with h; have := heapE_lt r; omega) })
                | 13, _, hi, hib =>
                  obtain rfl : b13 = false := by simpa using hib
                  obtain rfl : b14 = false := by
                    cases hbq : b14 with
                    | false => rfl
                    | true => have h := (HT.q14 hbq).2.2.2.2.2.2.2; cases h
                  obtain rfl : b15 = false := by
                    cases hbq : b15 with
                    | false => rfl
                    | true => have h := (HT.q15 hbq).2.2.2.2.2.2.2.2.2.2.2.2.2.1; cases h
                  have HTH := Lib.hid HT
                  clear HT
                  refine wpOp_one rfl rfl (fun K hK => ?_)
                  go_simp
                  have hba : Below w'.heap.size w' (w'.alloc (.cells #[.int .i64 0, .int .i64 0] 60)) := (Below.refl _ w').alloc (Nat.le_refl _) _
                  exact hK.out _ _ (.mk b0 b1 b2 b3 b4 b5 b6 b7 b8 b9 b10 b11 b12 true false false _ _ _ _ _ _ _ _ _ _ _ _ _ _ _ { HTH.out.kept hba with q14 := nofun, q15 := nofun, h13 := fun _ => ⟨w'.heap.size, rfl, HTH.out.bel.size, heap_new w' _⟩, ne := fun h12 _ => (by obtain ⟨g, e, _, r⟩ := HTH.out.h12 h12; rw [e]; intro h; injection h with h; injection h with h; injection h with h; have := heapE_lt r; omega) })
                | 14, _, hi, hib =>
                  obtain rfl : b14 = false := by simpa using hib
                  obtain rfl : b15 = false := by
                    cases hbq : b15 with
                    | false => rfl
                    | true => have h := (HT.q15 hbq).2.2.2.2.2.2.2.2.2.2.2.2.2.2; cases h
                  have d0 : b0 = true := ready_dep hi rfl 0 (by kernel_rfl)
                  have d1 : b1 = true := ready_dep hi rfl 1 (by kernel_rfl)
                  have d2 : b2 = true := ready_dep hi rfl 2 (by kernel_rfl)
                  have d3 : b3 = true := ready_dep hi rfl 3 (by kernel_rfl)
                  have d4 : b4 = true := ready_dep hi rfl 4 (by kernel_rfl)
                  have d5 : b5 = true := ready_dep hi rfl 5 (by kernel_rfl)
                  have d12 : b12 = true := ready_dep hi rfl 12 (by kernel_rfl)
                  have d13 : b13 = true := ready_dep hi rfl 13 (by kernel_rfl)
                  have e5 := HT.h5 d5
                  subst e5
                  subst d0
                  subst d1
                  subst d2
                  subst d3
                  subst d4
                  subst d5
                  subst d12
                  subst d13
                  obtain ⟨g, eg, hs, r⟩ := HT.h12 rfl
                  obtain ⟨g2, eg2, hs2, r2⟩ := HT.h13 rfl
                  have hne0 := HT.ne rfl rfl
                  subst eg eg2
                  have hne : g2 ≠ g := by
                    intro e; subst e; exact hne0 rfl
                  have r' : w'.heap[g]? = some (.cells #[.int .i64 0, .int .i64 0] 60 (0, 0)) := r
                  have HBE := Lib.hid HT.bel
                  have HTH := Lib.hid HT
                  obtain ⟨c0, c1, f0, f1⟩ := row2 r'
                  have k4 := heap_setCell_same w' g 0 _ _ (.int .i64 V) r'
                  have k4b := heap_setCell_same (w'.setCell ⟨g, 0, none⟩ (.int .i64 V)) g 1 _ _ (.int .i64 (F + 1)) k4
                  have K4 : Hid (((w'.setCell ⟨g, 0, none⟩ (.int .i64 V)).setCell ⟨g, 1, none⟩ (.int .i64 (F + 1))).heap[g]? = some (.cells #[.int .i64 V, .int .i64 (F + 1)] 60 (0, 0))) := Lib.hid k4b
                  have K5 : Hid (((w'.setCell ⟨g, 0, none⟩ (.int .i64 V)).setCell ⟨g, 1, none⟩ (.int .i64 (F + 1))).heap[g2]? = w'.heap[g2]?) := Lib.hid ((Below.heap_setCell _ _ _ g2 (fun e => hne e)).trans (Below.heap_setCell _ _ _ g2 (fun e => hne e)))
                  have HBL := Lib.hid ((HBE.out.setCell (p := ⟨g, 0, none⟩) hs (.int .i64 V)).setCell (p := ⟨g, 1, none⟩) hs (.int .i64 (F + 1)))
                  have R2 := Lib.hid r2
                  clear k4 k4b r r' r2
                  clear HT
                  refine wpOp_one rfl rfl (fun K hK => ?_)
                  go_simp
                  exact hK.out _ _ (.mk true true true true true true b6 b7 b8 b9 b10 b11 true true true false _ _ _ _ _ _ _ _ _ _ _ _ _ _ _ { HTH.out with q14 := fun _ => ⟨rfl, rfl, rfl, rfl, rfl, rfl, rfl, rfl⟩, q15 := nofun, bel := HBL.out, h12 := fun _ => ⟨g, rfl, hs, K4.out⟩, h13 := fun _ => ⟨g2, rfl, hs2, K5.out.trans R2.out⟩ })
                | 15, _, hi, hib =>
                  obtain rfl : b15 = false := by simpa using hib
                  have d0 : b0 = true := ready_dep hi rfl 0 (by kernel_rfl)
                  have d1 : b1 = true := ready_dep hi rfl 1 (by kernel_rfl)
                  have d2 : b2 = true := ready_dep hi rfl 2 (by kernel_rfl)
                  have d3 : b3 = true := ready_dep hi rfl 3 (by kernel_rfl)
                  have d4 : b4 = true := ready_dep hi rfl 4 (by kernel_rfl)
                  have d5 : b5 = true := ready_dep hi rfl 5 (by kernel_rfl)
                  have d6 : b6 = true := ready_dep hi rfl 6 (by kernel_rfl)
                  have d7 : b7 = true := ready_dep hi rfl 7 (by kernel_rfl)
                  have d8 : b8 = true := ready_dep hi rfl 8 (by kernel_rfl)
                  have d9 : b9 = true := ready_dep hi rfl 9 (by kernel_rfl)
                  have d10 : b10 = true := ready_dep hi rfl 10 (by kernel_rfl)
                  have d11 : b11 = true := ready_dep hi rfl 11 (by kernel_rfl)
                  have d12 : b12 = true := ready_dep hi rfl 12 (by kernel_rfl)
                  have d13 : b13 = true := ready_dep hi rfl 13 (by kernel_rfl)
                  have d14 : b14 = true := ready_dep hi rfl 14 (by kernel_rfl)
                  have e11 := HT.h11 d11
                  subst e11
                  subst d0
                  subst d1
                  subst d2
                  subst d3
                  subst d4
                  subst d5
                  subst d6
                  subst d7
                  subst d8
                  subst d9
                  subst d10
                  subst d11
                  subst d12
                  subst d13
                  subst d14
                  obtain ⟨g, eg, hs, r⟩ := HT.h13 rfl
                  obtain ⟨g2, eg2, hs2, r2⟩ := HT.h12 rfl
                  have hne0 := HT.ne rfl rfl
                  subst eg eg2
                  have hne : g2 ≠ g := by
                    intro e; subst e; exact hne0 rfl
                  have r' : w'.heap[g]? = some (.cells #[.int .i64 0, .int .i64 0] 60 (0, 0)) := r
                  have HBE := Lib.hid HT.bel
                  have HTH := Lib.hid HT
                  obtain ⟨c0, c1, f0, f1⟩ := row2 r'
                  have k4 := heap_setCell_same w' g 0 _ _ (.int .i64 V) r'
                  have k4b := heap_setCell_same (w'.setCell ⟨g, 0, none⟩ (.int .i64 V)) g 1 _ _ (.int .i64 (F - 1)) k4
                  have K4 : Hid (((w'.setCell ⟨g, 0, none⟩ (.int .i64 V)).setCell ⟨g, 1, none⟩ (.int .i64 (F - 1))).heap[g]? = some (.cells #[.int .i64 V, .int .i64 (F - 1)] 60 (0, 0))) := Lib.hid k4b
                  have K5 : Hid (((w'.setCell ⟨g, 0, none⟩ (.int .i64 V)).setCell ⟨g, 1, none⟩ (.int .i64 (F - 1))).heap[g2]? = w'.heap[g2]?) := Lib.hid ((Below.heap_setCell _ _ _ g2 (fun e => hne e)).trans (Below.heap_setCell _ _ _ g2 (fun e => hne e)))
                  have HBL := Lib.hid ((HBE.out.setCell (p := ⟨g, 0, none⟩) hs (.int .i64 V)).setCell (p := ⟨g, 1, none⟩) hs (.int .i64 (F - 1)))
                  have R2 := Lib.hid r2
                  clear k4 k4b r r' r2
                  clear HT
                  refine wpOp_one rfl rfl (fun K hK => ?_)
                  go_simp
                  exact hK.out _ _ (.mk true true true true true true true true true true true true true true true true _ _ _ _ _ _ _ _ _ _ _ _ _ _ _ { HTH.out with q15 := fun _ => ⟨rfl, rfl, rfl, rfl, rfl, rfl, rfl, rfl, rfl, rfl, rfl, rfl, rfl, rfl, rfl⟩, bel := HBL.out, h13 := fun _ => ⟨g, rfl, hs, K4.out⟩, h12 := fun _ => ⟨g2, rfl, hs2, K5.out.trans R2.out⟩ })
              case fin =>
                rintro lq a' w' ⟨b0, b1, b2, b3, b4, b5, b6, b7, b8, b9, b10, b11, b12, b13, b14, b15, v15, v16, v96, v97, v98, v99, v100, v101, v102, v103, v104, v105, v106, v107, _, HT⟩ hr
                obtain rfl : b0 = true := by
                  cases b0 with
                  | true => rfl
                  | false => exact (ready_in 0 rfl rfl (by simp [Region.binds]) hr).elim
                obtain rfl : b1 = true := by
                  cases b1 with
                  | true => rfl
                  | false => exact (ready_in 1 rfl rfl (by simp [Region.binds]) hr).elim
                obtain rfl : b2 = true := by
                  cases b2 with
                  | true => rfl
                  | false => exact (ready_in 2 rfl rfl (by simp [Region.binds]) hr).elim
                obtain rfl : b3 = true := by
                  cases b3 with
                  | true => rfl
                  | false => exact (ready_in 3 rfl rfl (by simp [Region.binds]) hr).elim
                obtain rfl : b4 = true := by
                  cases b4 with
                  | true => rfl
                  | false => exact (ready_in 4 rfl rfl (by simp [Region.binds]) hr).elim
                obtain rfl : b5 = true := by
                  cases b5 with
                  | true => rfl
                  | false => exact (ready_in 5 rfl rfl (by simp [Region.binds]) hr).elim
                obtain rfl : b6 = true := by
                  cases b6 with
                  | true => rfl
                  | false => exact (ready_in 6 rfl rfl (by simp [Region.binds]) hr).elim
                obtain rfl : b7 = true := by
                  cases b7 with
                  | true => rfl
                  | false => exact (ready_in 7 rfl rfl (by simp [Region.binds]) hr).elim
                obtain rfl : b8 = true := by
                  cases b8 with
                  | true => rfl
                  | false => exact (ready_in 8 rfl rfl (by simp [Region.binds]) hr).elim
                obtain rfl : b9 = true := by
                  cases b9 with
                  | true => rfl
                  | false => exact (ready_in 9 rfl rfl (by simp [Region.binds]) hr).elim
                obtain rfl : b10 = true := by
                  cases b10 with
                  | true => rfl
                  | false => exact (ready_in 10 rfl rfl (by simp [Region.binds]) hr).elim
                obtain rfl : b11 = true := by
                  cases b11 with
                  | true => rfl
                  | false => exact (ready_in 11 rfl rfl (by simp [Region.binds]) hr).elim
                obtain rfl : b12 = true := by
                  cases b12 with
                  | true => rfl
                  | false => exact (ready_in 12 rfl rfl (by simp [Region.binds]) hr).elim
                obtain rfl : b13 = true := by
                  cases b13 with
                  | true => rfl
                  | false => exact (ready_in 13 rfl rfl (by simp [Region.binds]) hr).elim
                obtain rfl : b14 = true := by
                  cases b14 with
                  | true => rfl
                  | false => exact (ready_in 14 rfl rfl (by simp [Region.binds]) hr).elim
                obtain rfl : b15 = true := by
                  cases b15 with
                  | true => rfl
                  | false => exact (ready_in 15 rfl rfl (by simp [Region.binds]) hr).elim
                obtain ⟨g1, eg1, hg1, r1⟩ := HT.h12 rfl
                obtain ⟨g2, eg2, hg2, r2⟩ := HT.h13 rfl
                subst eg1 eg2
                have HBX1 := Lib.hid HT.bel
                have RU : Hid (w'.heap[g1]? = some (.cells #[.int .i64 V, .int .i64 (F + 1)] 60 (0, 0))) := Lib.hid r1
                have RD : Hid (w'.heap[g2]? = some (.cells #[.int .i64 V, .int .i64 (F - 1)] 60 (0, 0))) := Lib.hid r2
                clear HT hr r1 r2 hg1 hg2
                obtain ⟨Y, HY⟩ : ∃ Y, Hid (Y = w'.alloc (.cells #[.int .i64 V, .int .i64 (F + 2)] 60)) := ⟨_, Lib.hid rfl⟩
                have hby : Below w'.heap.size w' Y := by rw [HY.out]; exact (Below.refl _ w').alloc (Nat.le_refl _) _
                have Y0 : Hid (Y.heap[w'.heap.size]? = some (.cells #[.int .i64 V, .int .i64 (F + 2)] 60 (0, 0))) := Lib.hid (by rw [HY.out]; exact heap_new w' _)
                have HBXY : Hid (Below X.heap.size X Y) := Lib.hid (HBX1.out.trans (hby.mono HBX1.out.size))
                have HBoY : Hid (Below wo.heap.size wo Y) := Lib.hid (HBX.out.trans (HBXY.out.mono HBX.out.size))
                have HB9Y : Hid (Below w.heap.size w Y) := Lib.hid (HB9.out.trans (HBoY.out.mono HB9.out.size))
                have HB4Y : Hid (Below w4.heap.size w4 Y) := Lib.hid (HBo.out.trans (HBoY.out.mono HBo.out.size))
                have HPY := Lib.hid (HP4.out.below HB4Y.out)
                have KY : Hid (Y.heap[w.heap.size]? = _) := Lib.hid ((HB4Y.out.block w.heap.size (heapE_lt K4.out)).trans K4.out)
                have EY : Hid (Y.heap[wo.heap.size]? = _) := Lib.hid ((HBXY.out.block wo.heap.size (heapE_lt X0.out)).trans X0.out)
                have UY : Hid (Y.heap[g1]? = _) := Lib.hid ((hby.block g1 (heapE_lt RU.out)).trans RU.out)
                have DY : Hid (Y.heap[g2]? = _) := Lib.hid ((hby.block g2 (heapE_lt RD.out)).trans RD.out)
                have hblY : bl < Y.heap.size := Nat.lt_of_lt_of_le hbl HBoY.out.size
                have LY : Hid (Y.cell? ⟨bl, ol + k, none⟩ = some (cv (V, F))) := Lib.hid ((HBoY.out.cell (p := ⟨bl, ol + k, none⟩) hbl).trans PZ.out)
                clear hby
                obtain ⟨x0, _⟩ := row1f KY.out
                obtain ⟨xc, xd, _, _⟩ := row2 ((HBX1.out.block wo.heap.size (heapE_lt X0.out)).trans X0.out)
                go_upto_region 23 with fail
                change Code.wp _ _ _ _ (w'.alloc (.cells #[.int .i64 V, .int .i64 (F + 2)] 60))
                rw [← HY.out]
                clear xa xb xc xd x0
                have HS10 : Hid (∀ Z, Below Y.heap.size Y Z → Z.cell? ⟨bl, ol + k, none⟩ = some (cv (V, F)) ∧ Z.cell? ⟨wo.heap.size, 0, none⟩ = some (.int .i64 V) ∧ Z.cell? ⟨wo.heap.size, 1, none⟩ = some (.int .i64 F) ∧ Z.cell? ⟨g1, 0, none⟩ = some (.int .i64 V) ∧ Z.cell? ⟨g1, 1, none⟩ = some (.int .i64 (F + 1)) ∧ Z.cell? ⟨g2, 0, none⟩ = some (.int .i64 V) ∧ Z.cell? ⟨g2, 1, none⟩ = some (.int .i64 (F - 1)) ∧ Z.cell? ⟨w'.heap.size, 0, none⟩ = some (.int .i64 V) ∧ Z.cell? ⟨w'.heap.size, 1, none⟩ = some (.int .i64 (F + 2)) ∧ Z.cell? ⟨w.heap.size, 0, none⟩ = some (.slice A n' c)) := Lib.hid (fun Z hb => by
                  obtain ⟨r1, r2, _, _⟩ := row2 ((hb.block wo.heap.size (heapE_lt EY.out)).trans EY.out)
                  obtain ⟨r3, r4, _, _⟩ := row2 ((hb.block g1 (heapE_lt UY.out)).trans UY.out)
                  obtain ⟨r5, r6, _, _⟩ := row2 ((hb.block g2 (heapE_lt DY.out)).trans DY.out)
                  obtain ⟨r7, r8, _, _⟩ := row2 ((hb.block w'.heap.size (heapE_lt Y0.out)).trans Y0.out)
                  obtain ⟨r9, _⟩ := row1f ((hb.block w.heap.size (heapE_lt KY.out)).trans KY.out)
                  exact ⟨(hb.cell (p := ⟨bl, ol + k, none⟩) hblY).trans LY.out, r1, r2, r3, r4, r5, r6, r7, r8, r9⟩)
                have oV := ord_eq HPB.out.1
                have oF := ord_eq HPB.out.2.1
                have hcv : ∀ p, cv p = .complex .f64 (fl p.1) (fl p.2) := fun _ => rfl
                have HC1 := Lib.hid (numP_any V F (Y.drewN 1))
                obtain ⟨ya0, ya1, ya2, ya3, ya4, ya5, ya6, ya7, ya8, ya9⟩ := HS10.out Y (Below.refl _ Y)
                clear hw1 hw2 hw3
                by_cases hF : 0 < F
                · have dF : decide (0 < F) = true := decide_eq_true hF
                  have HSD : Hid (standC l (k : Int) (V, F - 1) = true) := Lib.hid (by rw [HSD0.out, dF])
                  go_wp2_with fail
                  go_region_held3 (fun Z => Z.cell? ⟨bl, ol + k, none⟩ = some (cv (V, F)) ∧ Z.cell? ⟨wo.heap.size, 0, none⟩ = some (.int .i64 V) ∧ Z.cell? ⟨wo.heap.size, 1, none⟩ = some (.int .i64 F) ∧ Z.cell? ⟨g1, 0, none⟩ = some (.int .i64 V) ∧ Z.cell? ⟨g1, 1, none⟩ = some (.int .i64 (F + 1)) ∧ Z.cell? ⟨g2, 0, none⟩ = some (.int .i64 V) ∧ Z.cell? ⟨g2, 1, none⟩ = some (.int .i64 (F - 1)) ∧ Z.cell? ⟨w'.heap.size, 0, none⟩ = some (.int .i64 V) ∧ Z.cell? ⟨w'.heap.size, 1, none⟩ = some (.int .i64 (F + 2)) ∧ Z.cell? ⟨w.heap.size, 0, none⟩ = some (.slice A n' c)) ((first | exact ⟨ya0, ya1, ya2, ya3, ya4, ya5, ya6, ya7, ya8, ya9⟩ | exact ⟨yb0, yb1, yb2, yb3, yb4, yb5, yb6, yb7, yb8, yb9⟩ | exact ⟨yc0, yc1, yc2, yc3, yc4, yc5, yc6, yc7, yc8, yc9⟩ | exact ⟨yd0, yd1, yd2, yd3, yd4, yd5, yd6, yd7, yd8, yd9⟩ | exact ⟨ye0, ye1, ye2, ye3, ye4, ye5, ye6, ye7, ye8, ye9⟩ | exact ⟨yf0, yf1, yf2, yf3, yf4, yf5, yf6, yf7, yf8, yf9⟩ | exact ⟨yg0, yg1, yg2, yg3, yg4, yg5, yg6, yg7, yg8, yg9⟩ | exact ⟨yh0, yh1, yh2, yh3, yh4, yh5, yh6, yh7, yh8, yh9⟩ | exact ⟨yi0, yi1, yi2, yi3, yi4, yi5, yi6, yi7, yi8, yi9⟩ | go_keep)) (first
                    | (go_at_call 24; refine HC8.out.mono ?_; rintro e zi ⟨rfl, hb'⟩; (have HBi : Hid (Below Y.heap.size Y zi) := Lib.hid (HBh.out.trans (hb'.mono HBh.out.size))); clear hb'; (obtain ⟨yi0, yi1, yi2, yi3, yi4, yi5, yi6, yi7, yi8, yi9⟩ := HS10.out zi HBi.out))
                    | (go_at_call 23; refine HC7.out.mono ?_; rintro e zh ⟨rfl, hb'⟩; (have HBh : Hid (Below Y.heap.size Y zh) := Lib.hid (HBg.out.trans (hb'.mono HBg.out.size))); clear hb'; (obtain ⟨yh0, yh1, yh2, yh3, yh4, yh5, yh6, yh7, yh8, yh9⟩ := HS10.out zh HBh.out); (have HC8 := Lib.hid (stands_any (i := (k : Int)) (p := (V, F + 2)) (HPY.out.below HBh.out) HLV.out HPB.out.1 HPB.out.2.2.2.2)); (rw [HSF.out] at HC8))
                    | (go_at_call 24; refine HC6.out.mono ?_; rintro e zg ⟨rfl, hb'⟩; (have HBg : Hid (Below Y.heap.size Y zg) := Lib.hid (HBf.out.trans (hb'.mono HBf.out.size))); clear hb'; (obtain ⟨yg0, yg1, yg2, yg3, yg4, yg5, yg6, yg7, yg8, yg9⟩ := HS10.out zg HBg.out); (have HC7 := Lib.hid (numP_any V (F + 2) zg)))
                    | (go_at_call 23; refine HC5.out.mono ?_; rintro e zf ⟨rfl, hb'⟩; (have HBf : Hid (Below Y.heap.size Y zf) := Lib.hid (HBe.out.trans (hb'.mono HBe.out.size))); clear hb'; (obtain ⟨yf0, yf1, yf2, yf3, yf4, yf5, yf6, yf7, yf8, yf9⟩ := HS10.out zf HBf.out); (have HC6 := Lib.hid (stands_any (i := (k : Int)) (p := (V, F - 1)) (HPY.out.below HBf.out) HLV.out HPB.out.1 HPB.out.2.2.2.1)); (rw [HSD.out] at HC6))
                    | (go_at_call 24; refine HC4.out.mono ?_; rintro e ze ⟨rfl, hb'⟩; (have HBe : Hid (Below Y.heap.size Y ze) := Lib.hid (HBd.out.trans (hb'.mono HBd.out.size))); clear hb'; (obtain ⟨ye0, ye1, ye2, ye3, ye4, ye5, ye6, ye7, ye8, ye9⟩ := HS10.out ze HBe.out); (have HC5 := Lib.hid (numP_any V (F - 1) ze)))
                    | (go_at_call 23; refine HC3.out.mono ?_; rintro e zd ⟨rfl, hb'⟩; (have HBd : Hid (Below Y.heap.size Y zd) := Lib.hid (HBc.out.trans (hb'.mono HBc.out.size))); clear hb'; (obtain ⟨yd0, yd1, yd2, yd3, yd4, yd5, yd6, yd7, yd8, yd9⟩ := HS10.out zd HBd.out); (have HC4 := Lib.hid (stands_any (i := (k : Int)) (p := (V, F + 1)) (HPY.out.below HBd.out) HLV.out HPB.out.1 HPB.out.2.2.1)); (rw [HSU.out] at HC4))
                    | (go_at_call 24; refine HC2.out.mono ?_; rintro e zc ⟨rfl, hb'⟩; (have HBc : Hid (Below Y.heap.size Y zc) := Lib.hid (HBb.out.trans (hb'.mono HBb.out.size))); clear hb'; (obtain ⟨yc0, yc1, yc2, yc3, yc4, yc5, yc6, yc7, yc8, yc9⟩ := HS10.out zc HBc.out); (have HC3 := Lib.hid (numP_any V (F + 1) zc)))
                    | (go_at_call 23; refine HC1.out.mono ?_; rintro e zb ⟨rfl, hb'⟩; (have HBb : Hid (Below Y.heap.size Y zb) := Lib.hid (((Below.drewN' (Below.refl _ Y) 1)).trans hb')); clear hb'; (obtain ⟨yb0, yb1, yb2, yb3, yb4, yb5, yb6, yb7, yb8, yb9⟩ := HS10.out zb HBb.out); (have HC2 := Lib.hid (stands_any (i := (k : Int)) (p := (V, F)) (HPY.out.below HBb.out) HLV.out HPB.out.1 HPB.out.2.1)); (rw [HS0.out] at HC2)))
                  go_wp2_with fail
                  go_roundw
                  case rel => exact ⟨k + 1, by omega, by go_num, Lib.hid (HB4Y.out.trans (HBi.out.mono HB4Y.out.size))⟩
                  case measure => simp [intOf]; omega
                · have dF : decide (0 < F) = false := decide_eq_false hF
                  have HSD : Hid (standC l (k : Int) (V, F - 1) = false) := Lib.hid (by rw [HSD0.out, dF])
                  go_wp2_with fail
                  go_region_held3 (fun Z => Z.cell? ⟨bl, ol + k, none⟩ = some (cv (V, F)) ∧ Z.cell? ⟨wo.heap.size, 0, none⟩ = some (.int .i64 V) ∧ Z.cell? ⟨wo.heap.size, 1, none⟩ = some (.int .i64 F) ∧ Z.cell? ⟨g1, 0, none⟩ = some (.int .i64 V) ∧ Z.cell? ⟨g1, 1, none⟩ = some (.int .i64 (F + 1)) ∧ Z.cell? ⟨g2, 0, none⟩ = some (.int .i64 V) ∧ Z.cell? ⟨g2, 1, none⟩ = some (.int .i64 (F - 1)) ∧ Z.cell? ⟨w'.heap.size, 0, none⟩ = some (.int .i64 V) ∧ Z.cell? ⟨w'.heap.size, 1, none⟩ = some (.int .i64 (F + 2)) ∧ Z.cell? ⟨w.heap.size, 0, none⟩ = some (.slice A n' c)) ((first | exact ⟨ya0, ya1, ya2, ya3, ya4, ya5, ya6, ya7, ya8, ya9⟩ | exact ⟨yb0, yb1, yb2, yb3, yb4, yb5, yb6, yb7, yb8, yb9⟩ | exact ⟨yc0, yc1, yc2, yc3, yc4, yc5, yc6, yc7, yc8, yc9⟩ | exact ⟨yd0, yd1, yd2, yd3, yd4, yd5, yd6, yd7, yd8, yd9⟩ | exact ⟨ye0, ye1, ye2, ye3, ye4, ye5, ye6, ye7, ye8, ye9⟩ | exact ⟨yf0, yf1, yf2, yf3, yf4, yf5, yf6, yf7, yf8, yf9⟩ | exact ⟨yg0, yg1, yg2, yg3, yg4, yg5, yg6, yg7, yg8, yg9⟩ | exact ⟨yh0, yh1, yh2, yh3, yh4, yh5, yh6, yh7, yh8, yh9⟩ | exact ⟨yi0, yi1, yi2, yi3, yi4, yi5, yi6, yi7, yi8, yi9⟩ | go_keep)) (first
                    | (go_at_call 24; refine HC8.out.mono ?_; rintro e zi ⟨rfl, hb'⟩; (have HBi : Hid (Below Y.heap.size Y zi) := Lib.hid (HBh.out.trans (hb'.mono HBh.out.size))); clear hb'; (obtain ⟨yi0, yi1, yi2, yi3, yi4, yi5, yi6, yi7, yi8, yi9⟩ := HS10.out zi HBi.out))
                    | (go_at_call 23; refine HC7.out.mono ?_; rintro e zh ⟨rfl, hb'⟩; (have HBh : Hid (Below Y.heap.size Y zh) := Lib.hid (HBg.out.trans (hb'.mono HBg.out.size))); clear hb'; (obtain ⟨yh0, yh1, yh2, yh3, yh4, yh5, yh6, yh7, yh8, yh9⟩ := HS10.out zh HBh.out); (have HC8 := Lib.hid (stands_any (i := (k : Int)) (p := (V, F + 2)) (HPY.out.below HBh.out) HLV.out HPB.out.1 HPB.out.2.2.2.2)); (rw [HSF.out] at HC8))
                    | (go_at_call 24; refine HC6.out.mono ?_; rintro e zg ⟨rfl, hb'⟩; (have HBg : Hid (Below Y.heap.size Y zg) := Lib.hid (HBf.out.trans (hb'.mono HBf.out.size))); clear hb'; (obtain ⟨yg0, yg1, yg2, yg3, yg4, yg5, yg6, yg7, yg8, yg9⟩ := HS10.out zg HBg.out); (have HC7 := Lib.hid (numP_any V (F + 2) zg)))
                    | (go_at_call 23; refine HC5.out.mono ?_; rintro e zf ⟨rfl, hb'⟩; (have HBf : Hid (Below Y.heap.size Y zf) := Lib.hid (HBe.out.trans (hb'.mono HBe.out.size))); clear hb'; (obtain ⟨yf0, yf1, yf2, yf3, yf4, yf5, yf6, yf7, yf8, yf9⟩ := HS10.out zf HBf.out); (have HC6 := Lib.hid (stands_any (i := (k : Int)) (p := (V, F - 1)) (HPY.out.below HBf.out) HLV.out HPB.out.1 HPB.out.2.2.2.1)); (rw [HSD.out] at HC6))
                    | (go_at_call 24; refine HC4.out.mono ?_; rintro e ze ⟨rfl, hb'⟩; (have HBe : Hid (Below Y.heap.size Y ze) := Lib.hid (HBd.out.trans (hb'.mono HBd.out.size))); clear hb'; (obtain ⟨ye0, ye1, ye2, ye3, ye4, ye5, ye6, ye7, ye8, ye9⟩ := HS10.out ze HBe.out); (have HC5 := Lib.hid (numP_any V (F - 1) ze)))
                    | (go_at_call 23; refine HC3.out.mono ?_; rintro e zd ⟨rfl, hb'⟩; (have HBd : Hid (Below Y.heap.size Y zd) := Lib.hid (HBc.out.trans (hb'.mono HBc.out.size))); clear hb'; (obtain ⟨yd0, yd1, yd2, yd3, yd4, yd5, yd6, yd7, yd8, yd9⟩ := HS10.out zd HBd.out); (have HC4 := Lib.hid (stands_any (i := (k : Int)) (p := (V, F + 1)) (HPY.out.below HBd.out) HLV.out HPB.out.1 HPB.out.2.2.1)); (rw [HSU.out] at HC4))
                    | (go_at_call 24; refine HC2.out.mono ?_; rintro e zc ⟨rfl, hb'⟩; (have HBc : Hid (Below Y.heap.size Y zc) := Lib.hid (HBb.out.trans (hb'.mono HBb.out.size))); clear hb'; (obtain ⟨yc0, yc1, yc2, yc3, yc4, yc5, yc6, yc7, yc8, yc9⟩ := HS10.out zc HBc.out); (have HC3 := Lib.hid (numP_any V (F + 1) zc)))
                    | (go_at_call 23; refine HC1.out.mono ?_; rintro e zb ⟨rfl, hb'⟩; (have HBb : Hid (Below Y.heap.size Y zb) := Lib.hid (((Below.drewN' (Below.refl _ Y) 1)).trans hb')); clear hb'; (obtain ⟨yb0, yb1, yb2, yb3, yb4, yb5, yb6, yb7, yb8, yb9⟩ := HS10.out zb HBb.out); (have HC2 := Lib.hid (stands_any (i := (k : Int)) (p := (V, F)) (HPY.out.below HBb.out) HLV.out HPB.out.1 HPB.out.2.1)); (rw [HS0.out] at HC2)))
                  go_wp2_with fail
                  go_roundw
                  case rel => exact ⟨k + 1, by omega, by go_num, Lib.hid (HB4Y.out.trans (HBi.out.mono HB4Y.out.size))⟩
                  case measure => simp [intOf]; omega
            · have hd : decide ((k : Int) < (m5 : Int)) = false := by simp; omega
              go_wp2_with fail
              exact bodyPost_ret (results_tmp rfl _ _ _) rfl ⟨rfl, HB9.out⟩
end Go.Proofs.YtebflhlgcpbikaaGreat
