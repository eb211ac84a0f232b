/-
  CONTRACT of the document's told, over this translation.
-/
import Derived.Test.YtinphdphloddmabCMid
import Derived.Test.YtinphdphloddmabPar
import Derived.Deep.DeepCutAuto
import Derived.Deep.CutRange
import Derived.Deep.CutBlock
import Derived.Deep.LoopGhost
import Derived.Deep.QuietTactic
import Derived.BigQuiet
namespace Go.Proofs.Ytinphdphloddmab
open Go.RowKit
open ByteP
set_option linter.unusedVariables false
set_option maxRecDepth 100000

def ints (xs : List Int) : List Value := xs.map (Value.int .i64)
theorem ints_one (xs : List Int) : ∀ u ∈ ints xs, u.oneCell' = true := fun u hu => by
  obtain ⟨z, _, rfl⟩ := List.mem_map.1 hu
  rfl
theorem elemT_int : ElemT Try.prog 22 3 1 8 := by
  obtain ⟨i0, hi, hz0, hz1, hz2⟩ := info_parts infoInt
  exact ⟨i0, _, Try.underlying22, hi, hz0, hz1, hz2, rfl, by omega⟩
theorem own_slice {w : World} {base n sz : Nat} {e : TypeId} {v : Value} {cs : List Value} (h : w.ownsRow base e sz v n cs) : ∃ A c, v = .slice A n c := by
  rcases h.2 with ⟨e1, e2⟩ | ⟨g, cap, cur, e1, _⟩
  · subst e2; exact ⟨none, 0, e1⟩
  · exact ⟨_, cap, e1⟩
theorem src_fr {w0 w : World} {sz m : Nat} {D : Option Addr} {cs : List Value} {M : Nat → Prop} (h : Src w0 D m sz cs) (hlt : ∀ ad, D = some ad → ad.block < w0.heap.size ∧ ¬ M ad.block) (hf : FrP w0 w M) : Src w D m sz cs := by
  obtain ⟨h1, h2, h3⟩ := h
  refine ⟨h1, h2, ?_⟩
  rcases h3 with h3 | ⟨ad, e, hc⟩
  · exact .inl h3
  · refine .inr ⟨ad, e, fun j u hj => ?_⟩
    obtain ⟨q1, q2⟩ := hlt ad e
    have hb : (ad.add j).block = ad.block := by unfold Addr.add; split <;> rfl
    rw [hf.cell (by rw [hb]; exact q1) (by rw [hb]; exact q2)]
    exact hc j u hj
/-- What holds after whatever of the operations. -/
structure ToSt (w0 : World) (qn qk qj qm : Nat) (qc qc1 : Nat) (qA qA1 qD : Option Addr) (qL : List Int) (qx : Int) (qp : Addr) (b0 b1 b2 b3 b4 b5 b6 b7 b8 b9 b10 b11 b12 b13 b14 b15 : Bool) (v11 v86 v87 v88 v89 v90 v91 v92 v93 v94 v95 v96 v97 v98 v99 v100 : Value) (w' : World) : Prop where
  par : Par w0 (fun _ => False) w0.heap.size w' [bif b14 then some ⟨v100, 3, 1, ((0 + qk) + 1) + (qn - qk), ([] ++ (ints (qL.take qk)) ++ [.int .i64 qx]) ++ (ints (qL.drop qk))⟩ else bif b10 then some ⟨v96, 3, 1, (0 + qk) + 1, [] ++ (ints (qL.take qk)) ++ [.int .i64 qx]⟩ else bif b4 then some ⟨v90, 3, 1, 0 + qk, [] ++ (ints (qL.take qk))⟩ else bif b0 then some ⟨v86, 3, 1, 0, []⟩ else none, bif b9 then some ⟨v95, 3, 1, 1, [.int .i64 qx]⟩ else none]
  h1 : b1 = true → v87 = .slice qA qn qc
  h2 : b2 = true → v88 = .int .i64 (qk : Int)
  h3 : b3 = true → v89 = .slice qA qk qc
  d3 : b3 = true → b1 = true ∧ b2 = true
  d4 : b4 = true → b0 = true ∧ b3 = true
  h5 : b5 = true → v91 = .slice qA1 qm qc1
  h6 : b6 = true → v92 = .int .i64 (qj : Int)
  h7 : b7 = true → v93 = .pointer (some qp)
  d7 : b7 = true → b5 = true ∧ b6 = true
  h8 : b8 = true → v94 = .int .i64 qx
  d8 : b8 = true → b7 = true
  d9 : b9 = true → b8 = true
  d10 : b10 = true → b4 = true ∧ b9 = true
  h11 : b11 = true → v97 = .slice qA qn qc
  h12 : b12 = true → v98 = .int .i64 (qk : Int)
  h13 : b13 = true → v99 = .slice qD (qn - qk) (qc - qk)
  d13 : b13 = true → b11 = true ∧ b12 = true
  d14 : b14 = true → b10 = true ∧ b13 = true
  h15 : b15 = true → v11 = v100
  o15 : b15 = false → v11 = .slice qA qn qc
  d15 : b15 = true → b14 = true
def ToJ (w0 : World) (qn qk qj qm : Nat) (qc qc1 : Nat) (qA qA1 qD : Option Addr) (qL : List Int) (qx : Int) (qp : Addr) (p0 p1 p2 p3 p4 p5 p6 p7 p8 p9 p10 p12 p13 p14 p15 p16 p17 p18 p19 p20 p21 p22 p23 p24 p25 p26 p27 p28 p29 p30 p31 p32 p33 p34 p35 p36 p37 p38 p39 p40 p41 p42 p43 p44 p45 p46 p47 p48 p49 p50 p51 p52 p53 p54 p55 p56 p57 p58 p59 p60 p61 p62 p63 p64 p65 p66 p67 p68 p69 p70 p71 p72 p73 p74 p75 p76 p77 p78 p79 p80 p81 p82 p83 p84 p85 p101 p102 p103 p104 p105 p106 p107 p108 p109 p110 p111 p112 p113 p114 p115 p116 p117 p118 p119 p120 p121 p122 p123 p124 p125 p126 p127 : Value) (l : Array Bool) (a' : Act) (w' : World) : Prop :=
  ∃ (b0 b1 b2 b3 b4 b5 b6 b7 b8 b9 b10 b11 b12 b13 b14 b15 : Bool) (v11 v86 v87 v88 v89 v90 v91 v92 v93 v94 v95 v96 v97 v98 v99 v100 : Value), l = #[b0, b1, b2, b3, b4, b5, b6, b7, b8, b9, b10, b11, b12, b13, b14, b15] ∧ a' = { tmps := List.toArray (p0 :: p1 :: p2 :: p3 :: p4 :: p5 :: p6 :: p7 :: p8 :: p9 :: p10 :: v11 :: p12 :: p13 :: p14 :: p15 :: p16 :: p17 :: p18 :: p19 :: p20 :: p21 :: p22 :: p23 :: p24 :: p25 :: p26 :: p27 :: p28 :: p29 :: p30 :: p31 :: p32 :: p33 :: p34 :: p35 :: p36 :: p37 :: p38 :: p39 :: p40 :: p41 :: p42 :: p43 :: p44 :: p45 :: p46 :: p47 :: p48 :: p49 :: p50 :: p51 :: p52 :: p53 :: p54 :: p55 :: p56 :: p57 :: p58 :: p59 :: p60 :: p61 :: p62 :: p63 :: p64 :: p65 :: p66 :: p67 :: p68 :: p69 :: p70 :: p71 :: p72 :: p73 :: p74 :: p75 :: p76 :: p77 :: p78 :: p79 :: p80 :: p81 :: p82 :: p83 :: p84 :: p85 :: v86 :: v87 :: v88 :: v89 :: v90 :: v91 :: v92 :: v93 :: v94 :: v95 :: v96 :: v97 :: v98 :: v99 :: v100 :: p101 :: p102 :: p103 :: p104 :: p105 :: p106 :: p107 :: p108 :: p109 :: p110 :: p111 :: p112 :: p113 :: p114 :: p115 :: p116 :: p117 :: p118 :: p119 :: p120 :: p121 :: p122 :: p123 :: p124 :: p125 :: p126 :: p127 :: []), defers := [] } ∧ ToSt w0 qn qk qj qm qc qc1 qA qA1 qD qL qx qp b0 b1 b2 b3 b4 b5 b6 b7 b8 b9 b10 b11 b12 b13 b14 b15 v11 v86 v87 v88 v89 v90 v91 v92 v93 v94 v95 v96 v97 v98 v99 v100 w'

def TLoop (G : Int → Option Int) (ids : List Int) (now ask : Int) (w wr : World) (j : Nat) (v11 v12 v13 v14 : Value) : Prop :=
  ∃ (A : Option Addr) (c : Nat) (L : List Int) (a : Int) (ok rd : Bool), v11 = .slice A L.length c ∧ v12 = .int .i64 a ∧ v13 = .bool ok ∧ v14 = .bool rd ∧ Own wr w.heap.size (.slice A L.length c) L.length L ∧ ToldR G ids now ask j L a ok rd ∧ L.length ≤ j ∧ Below w.heap.size w wr
def ToOut (w0 : World) (L : List Int) (x : Int) (k : Nat) (v : Value) (w' : World) : Prop :=
  ∃ (A' : Option Addr) (c' : Nat), v = .slice A' (L.length + 1) c' ∧ Own w' w0.heap.size (.slice A' (L.length + 1) c') (L.length + 1) (L.take k ++ [x] ++ L.drop k) ∧ Below w0.heap.size w0 w'
def BefK (G : Int → Option Int) (x : Int) (L : List Int) (k : Nat) : Prop := k ≤ L.length ∧ ∀ i, i < k → befG G x (ix L i) = true
theorem quiet_add_same {P : Program} {f : FuncId} {args : Array Value} {w : World} {a n : Nat} {v : Value}
    (h : Calls P f args (w.drewN (a + n)) fun e w' => e = .returned v ∧ w' = w.drewN (a + n)) :
    Calls P f args (w.drewN (a + n)) fun e w'' => e = .returned v ∧ ∃ m, w'' = w.drewN (a + m) :=
  h.mono fun _ _ ⟨he, hm⟩ => ⟨he, n, hm⟩
theorem BefK.next {G : Int → Option Int} {x : Int} {L : List Int} {k : Nat} (h : BefK G x L k) (hk : k < L.length) (hb : befG G x (ix L k) = true) : BefK G x L (k + 1) :=
  ⟨hk, fun i hi => by
    by_cases e : i = k
    · rw [e]; exact hb
    · exact h.2 i (by omega)⟩
section
variable [Inhabited I64]
set_option maxHeartbeats 4000000 in
theorem told_any {w : World} {cb bm n m B1 B2 c1 c2 : Nat} {now : Int} {A1 A2 : Option Addr} {D : DataW Unit} {G : Int → Option Int} {ids ats : List Int} (hc : Clk w cb bm now n D) (hG : AlD D G) (h1 : Rd w B1 A1 m ids) (h2 : Rd w B2 A2 m ats)
    (hB1 : B1 ≤ w.heap.size) (hB2 : B2 ≤ w.heap.size) (hL : LiD G ids ats m) (hr : ∀ x t, G x = some t → 0 ≤ x ∧ x ≤ 999999) (hm : m ≤ 100000) (hn : n ≤ 1000000000) (ask : I64) :
    Calls Try.prog 36 #[.pointer (some ⟨cb, 0, none⟩), .int .i64 now, .slice A1 m c1, .slice A2 m c2, .int .i64 ask.1] w fun e w' => e = .returned (.bool true) ∧ Below w.heap.size w w' := by
  have HC := Lib.hid hc
  have HG := Lib.hid hG
  have H1 := Lib.hid h1
  have H2 := Lib.hid h2
  have HL := Lib.hid hL
  have HR := Lib.hid hr
  clear hc hG h1 h2 hL hr
  go_enter Try.func36, Try.ntmps36
  go_wp2
  go_loopg [11, 12, 13, 14, 22] m (fun g v11 v12 v13 v14 v22 wr => ∃ j : Nat, g + j = m ∧ v22 = .int .i64 (j : Int) ∧ Hid (TLoop G ids now ask.1 w wr j v11 v12 v13 v14))
  case atStart => exact ⟨0, by omega, rfl, Lib.hid ⟨none, 0, [], 0, false, true, rfl, rfl, rfl, rfl, Own.nil_ _ _, ToldR.start _ _ _ _, by simp, Below.refl _ _⟩⟩
  case round =>
    obtain ⟨j, hj, rfl, HT⟩ := hrel
    obtain ⟨A, c, L, a, ok, rd, rfl, rfl, rfl, rfl, hown, htold, hlen, hbel⟩ := HT.out
    clear HT
    have HO := Lib.hid hown
    have HT := Lib.hid htold
    have HB := Lib.hid hbel
    clear hown htold hbel
    by_cases hjm : j < m
    · have hd : decide ((j : Int) < (m : Int)) = true := by simp; omega
      have hi : (j : Int) < (m : Int) := by omega
      have hadd : IntKind.i64.wrap ((j : Int) + 1) = ((j + 1 : Nat) : Int) := by rw [IntWalk.i64_in _ (by omega)]; omega
      have HR1 := Lib.hid (H1.out.below (HB.out.mono hB1))
      have HR2 := Lib.hid (H2.out.below (HB.out.mono hB2))
      obtain ⟨b1, o1, rfl, hb1, hcell1⟩ := HR1.out.at_ hjm
      obtain ⟨b2, o2, rfl, hb2, hcell2⟩ := HR2.out.at_ hjm
      have HGX := Lib.hid (HL.out.at_ j hjm)
      have HX : ∃ x, Hid (ix ids j = x) := ⟨_, Lib.hid rfl⟩
      have HTT : ∃ t, Hid (ix ats j = t) := ⟨_, Lib.hid rfl⟩
      obtain ⟨x, HX⟩ := HX
      obtain ⟨t, HTT⟩ := HTT
      rw [HX.out] at hcell1
      rw [HTT.out] at hcell2
      rw [HX.out, HTT.out] at HGX
      go_upto_if 32 with fail
      go_cut [14] (fun v w' => ∃ rd' : Bool, v = .bool rd' ∧ w' = wr ∧ Hid (rd' = if ix ids j = ask.1 then decide (ix ats j ≤ now) else rd))
      case first =>
        by_cases hq : x = ask.1
        · have hqe : (x == ask.1) = true := by simp [hq]
          have HE : Hid (decide (t ≤ now) = if ix ids j = ask.1 then decide (ix ats j ≤ now) else rd) := Lib.hid (by rw [HX.out, HTT.out, if_pos hq])
          clear hq
          by_cases ht : t ≤ now
          · have ht2 : decide (t ≤ now) = true := decide_eq_true ht
            have HE2 : Hid (true = if ix ids j = ask.1 then decide (ix ats j ≤ now) else rd) := Lib.hid (by rw [← HE.out, ht2])
            go_wp2_with fail
            go_meet
            exact ⟨true, rfl, rfl, HE2⟩
          · have ht2 : decide (t ≤ now) = false := decide_eq_false ht
            have HE2 : Hid (false = if ix ids j = ask.1 then decide (ix ats j ≤ now) else rd) := Lib.hid (by rw [← HE.out, ht2])
            go_wp2_with fail
            go_meet
            exact ⟨false, rfl, rfl, HE2⟩
        · have hqe : (x == ask.1) = false := by simp [hq]
          have HE : Hid (rd = if ix ids j = ask.1 then decide (ix ats j ≤ now) else rd) := Lib.hid (by rw [HX.out, if_neg hq])
          clear hq
          go_wp2_with fail
          go_meet
          exact ⟨rd, rfl, rfl, HE⟩
      case rest =>
        obtain ⟨rd', rfl, rfl, HRD⟩ := hcut
        obtain ⟨wq, rfl⟩ : ∃ wq : World, wq = wc := ⟨_, rfl⟩
        by_cases htn : now < t
        · have hd2 : decide (now < t) = true := decide_eq_true htn
          have HTN := Lib.hid htn
          clear htn
          cases ok with
          | false =>
            have HN : Hid (ToldR G ids now ask.1 (j + 1) L t true rd') := Lib.hid (HT.out.later HL.out hjm (by rw [HTT.out]; exact HTN.out) (.inl ⟨HTT.out.symm, fun h => by cases h⟩) HRD.out)
            go_wp2_with fail
            go_roundg (m - (j + 1))
            case measure => omega
            case rel => exact ⟨j + 1, by omega, rfl, Lib.hid ⟨A, c, L, t, true, rd', rfl, rfl, rfl, rfl, HO.out, HN.out, by omega, HB.out⟩⟩
          | true =>
            by_cases hs : t < a
            · have hd3 : decide (t < a) = true := decide_eq_true hs
              have HN : Hid (ToldR G ids now ask.1 (j + 1) L t true rd') := Lib.hid (HT.out.later HL.out hjm (by rw [HTT.out]; exact HTN.out) (.inl ⟨HTT.out.symm, fun _ => by rw [HTT.out]; exact hs⟩) HRD.out)
              clear hs
              go_wp2_with fail
              go_roundg (m - (j + 1))
              case measure => omega
              case rel => exact ⟨j + 1, by omega, rfl, Lib.hid ⟨A, c, L, t, true, rd', rfl, rfl, rfl, rfl, HO.out, HN.out, by omega, HB.out⟩⟩
            · have hd3 : decide (t < a) = false := decide_eq_false hs
              have HN : Hid (ToldR G ids now ask.1 (j + 1) L a true rd') := Lib.hid (HT.out.later HL.out hjm (by rw [HTT.out]; exact HTN.out) (.inr ⟨rfl, rfl, by rw [HTT.out]; omega⟩) HRD.out)
              clear hs
              go_wp2_with fail
              go_roundg (m - (j + 1))
              case measure => omega
              case rel => exact ⟨j + 1, by omega, rfl, Lib.hid ⟨A, c, L, a, true, rd', rfl, rfl, rfl, rfl, HO.out, HN.out, by omega, HB.out⟩⟩
        · have hd2 : decide (now < t) = false := decide_eq_false htn
          have HTN := Lib.hid htn
          clear htn
          go_upto_block 2 with fail
          go_cut [17] (fun v w' => ∃ (k d : Nat), v = .int .i64 (k : Int) ∧ w' = wq.drewN d ∧ Hid (BefK G x L k) ∧ Hid (k < L.length → befG G x (ix L k) = false))
          case first =>
            obtain ⟨wo, HWO⟩ : ∃ wo : World, Hid (wo = wq) := ⟨_, Lib.hid rfl⟩
            have HO' : Hid (Own wo w.heap.size (.slice A L.length c) L.length L) := Lib.hid (by rw [HWO.out]; exact HO.out)
            have HR1' : Hid (Rd wo B1 (some ⟨b1, o1, none⟩) m ids) := Lib.hid (by rw [HWO.out]; exact HR1.out)
            have HR2' : Hid (Rd wo B2 (some ⟨b2, o2, none⟩) m ats) := Lib.hid (by rw [HWO.out]; exact HR2.out)
            have HGT : Hid (tOf G x = t) := Lib.hid (by unfold tOf; rw [HGX.out]; rfl)
            clear hcell1 hcell2
            go_wp2_with fail
            go_loopw [17] (fun v wr => ∃ (k d : Nat), v = .int .i64 (k : Int) ∧ Hid (wr = wo.drewN d) ∧ Hid (BefK G x L k)) (fun v _ => L.length - (intOf v).toNat)
            case atStart => exact ⟨0, 0, rfl, Lib.hid (by rw [HWO.out]; rfl), Lib.hid ⟨Nat.zero_le _, fun i hi => absurd hi (by omega)⟩⟩
            case round =>
              obtain ⟨k, d, rfl, HW, HK⟩ := hrel
              obtain rfl := HW.out
              have hk := HK.out.1
              by_cases hkl : k < L.length
              · obtain ⟨g, cc, e, hge, hlt⟩ := HO'.out.form (by omega)
                injection e with e1 e2 e3
                subst e1 e3
                have hcl : wo.cell? ⟨g, k, none⟩ = some (.int .i64 (ix L k)) := HO'.out.cell hkl
                have hci : wo.cell? ⟨b1, o1 + j, none⟩ = some (.int .i64 (ix ids j)) := by
                  obtain ⟨b9, o9, e9, _, h9⟩ := HR1'.out.at_ hjm
                  injection e9 with e9
                  injection e9 with e9 e10
                  subst e9 e10
                  exact h9
                rw [HX.out] at hci
                obtain ⟨y, HY⟩ : ∃ y, Hid (ix L k = y) := ⟨_, Lib.hid rfl⟩
                obtain ⟨z, HZ⟩ : ∃ z, Hid (tOf G y = z) := ⟨_, Lib.hid rfl⟩
                rw [HY.out] at hcl
                have HCALL : Hid (∀ a, Calls Try.prog 53 #[.slice (some ⟨b1, o1, none⟩) m c1, .slice (some ⟨b2, o2, none⟩) m c2, .int .i64 y] (wo.drewN a) fun e w' => e = .returned (.int .i64 z) ∧ w' = wo.drewN a) := Lib.hid (fun a => by
                  have := time_of (c1 := c1) (c2 := c2) (x := y) (HR1'.out.drewN a) (HR2'.out.drewN a) (by omega) HL.out
                  rw [HZ.out] at this
                  exact this)
                have hki : (k : Int) < (L.length : Int) := by omega
                have hd3 : decide ((k : Int) < (L.length : Int)) = true := by simp; omega
                have hadd3 : IntKind.i64.wrap ((k : Int) + 1) = ((k + 1 : Nat) : Int) := by rw [IntWalk.i64_in _ (by omega)]; omega
                have HBV : Hid (befG G x (ix L k) = decide (z < t ∨ (z = t ∧ y < x))) := Lib.hid (by unfold befG; rw [HY.out, HZ.out, HGT.out])
                by_cases z1 : z < t
                · have q1 : decide (z < t) = true := decide_eq_true z1
                  have HN := Lib.hid (HK.out.next hkl (by rw [HBV.out]; exact decide_eq_true (.inl z1)))
                  clear z1
                  go_wp2_with fail
                  go_quiet ((go_at_call 53; exact quiet_add_same (HCALL.out _)))
                  go_wp2
                  go_roundw
                  case rel => exact ⟨k + 1, _, rfl, Lib.hid rfl, HN⟩
                  case measure => simp [intOf]; omega
                · have q1 : decide (z < t) = false := decide_eq_false z1
                  by_cases z2 : z = t
                  · have q2 : (z == t) = true := by simp [z2]
                    by_cases z3 : y < x
                    · have q3 : decide (y < x) = true := decide_eq_true z3
                      have HN := Lib.hid (HK.out.next hkl (by rw [HBV.out]; exact decide_eq_true (.inr ⟨z2, z3⟩)))
                      clear z1 z2 z3
                      go_wp2_with fail
                      go_quiet ((go_at_call 53; exact quiet_add_same (HCALL.out _)))
                      go_wp2
                      go_roundw
                      case rel => exact ⟨k + 1, _, rfl, Lib.hid rfl, HN⟩
                      case measure => simp [intOf]; omega
                    · have q3 : decide (y < x) = false := decide_eq_false z3
                      have HF : Hid (k < L.length → befG G x (ix L k) = false) := Lib.hid (fun _ => by rw [HBV.out]; exact decide_eq_false (fun h => by rcases h with h | h; exact z1 h; exact z3 h.2))
                      clear z1 z2 z3
                      go_wp2_with fail
                      go_quiet ((go_at_call 53; exact quiet_add_same (HCALL.out _)))
                      go_wp2_with fail
                      go_meet
                      exact ⟨k, _, rfl, by rw [← HWO.out, World.drewN_drewN], HK, HF⟩
                  · have q2 : (z == t) = false := by simp [z2]
                    have HF : Hid (k < L.length → befG G x (ix L k) = false) := Lib.hid (fun _ => by rw [HBV.out]; exact decide_eq_false (fun h => by rcases h with h | h; exact z1 h; exact z2 h.1))
                    clear z1 z2
                    go_wp2_with fail
                    go_quiet ((go_at_call 53; exact quiet_add_same (HCALL.out _)))
                    go_wp2_with fail
                    go_meet
                    exact ⟨k, _, rfl, by rw [← HWO.out, World.drewN_drewN], HK, HF⟩
              · have hd3 : decide ((k : Int) < (L.length : Int)) = false := by simp; omega
                have HF : Hid (k < L.length → befG G x (ix L k) = false) := Lib.hid (fun h => absurd h hkl)
                go_wp2_with fail
                go_quiet (fail)
                go_wp2_with fail
                go_meet
                exact ⟨k, _, rfl, by rw [← HWO.out, World.drewN_drewN], HK, HF⟩
          case rest =>
            obtain ⟨k, d, rfl, HW, HK, HF⟩ := hcut
            obtain ⟨w0, rfl⟩ : ∃ w0 : World, w0 = wc := ⟨_, rfl⟩
            have HW0 := Lib.hid HW
            clear HW
            have HO0 : Hid (Own w0 w.heap.size (.slice A L.length c) L.length L) := Lib.hid (by rw [HW0.out]; exact HO.out.drewN d)
            have HB0 : Hid (Below w.heap.size w w0) := Lib.hid (by rw [HW0.out]; exact ⟨HB.out.os, HB.out.tape, HB.out.output, HB.out.size, HB.out.block⟩)
            have hc10 : w0.cell? ⟨b1, o1 + j, none⟩ = some (.int .i64 x) := by rw [HW0.out]; exact hcell1
            have hbl : b1 < w0.heap.size := Nat.lt_of_lt_of_le (Nat.lt_of_lt_of_le hb1 hB1) HB0.out.size
            have HCL : Hid (∀ w', FrP w0 w' (fun _ => False) → w'.cell? ⟨b1, o1 + j, none⟩ = some (.int .i64 x)) := Lib.hid (fun w' h => (h.cell (p := ⟨b1, o1 + j, none⟩) hbl (fun h => h)).trans hc10)
            have hkL := HK.out.1
            have HAD : Hid (∀ ad, A = some ad → ad.block < w0.heap.size) := Lib.hid (fun ad e => by
              rcases HO0.out.2 with ⟨h, _⟩ | ⟨g, cap, cur, h, _, hh, _⟩
              · injection h with h; rw [h] at e; cases e
              · injection h with h
                rw [h] at e
                injection e with e
                subst e
                exact heapK_lt hh)
            obtain ⟨hsl1, hs1⟩ := cut_low elemT_int HO0.out (ints_one L) hkL
            obtain ⟨DD, hsl2, hs2, hd2'⟩ := cut_high elemT_int HO0.out (ints_one L) hkL
            rw [Nat.mul_one, ← List.map_take] at hs1
            rw [Nat.mul_one, ← List.map_drop] at hs2
            have HS1 : Hid (∀ w', FrP w0 w' (fun _ => False) → Src w' A k 1 (ints (L.take k))) := Lib.hid (fun w' h => src_fr hs1 (fun ad e => ⟨HAD.out ad e, fun h => h⟩) h)
            have HS2 : Hid (∀ w', FrP w0 w' (fun _ => False) → Src w' DD (L.length - k) 1 (ints (L.drop k))) := Lib.hid (fun w' h => src_fr hs2 (fun ad e => (by
              obtain ⟨ad0, e0, e1⟩ := hd2' ad e
              rw [e1]
              exact ⟨HAD.out ad0 e0, fun h => h⟩)) h)
            have HTO := HT
            clear HT
            have HMORE : Hid (L.length ≤ 100000) := Lib.hid (by omega)
            clear hs1 hs2 hd2' hc10
            go_upto_region 14 with fail
            clear hcell1 hcell2 hd hd2 hadd
            refine wp_region_inv (by kernel_rfl) (I := ToJ w0 L.length k j m c c1 A (some ⟨b1, o1, none⟩) DD L x ⟨b1, o1 + j, none⟩ _ _ _ _ _ _ _ _ _ _ _ _ _ _ _ _ _ _ _ _ _ _ _ _ _ _ _ _ _ _ _ _ _ _ _ _ _ _ _ _ _ _ _ _ _ _ _ _ _ _ _ _ _ _ _ _ _ _ _ _ _ _ _ _ _ _ _ _ _ _ _ _ _ _ _ _ _ _ _ _ _ _ _ _ _ _ _ _ _ _ _ _ _ _ _ _ _ _ _ _ _ _ _ _ _ _ _ _ _ _ _ _) ⟨false, false, false, false, false, false, false, false, false, false, false, false, false, false, false, false, _, _, _, _, _, _, _, _, _, _, _, _, _, _, _, _, rfl, rfl, ⟨(Par.none_ _ _ (Nat.le_refl _) 2).drew1, nofun, nofun, nofun, nofun, nofun, nofun, nofun, nofun, nofun, nofun, nofun, nofun, nofun, nofun, nofun, nofun, nofun, nofun, nofun, (fun _ => rfl), nofun⟩⟩ ?step ?fin
            case step =>
              rintro l a' w' i ⟨b0, b1, b2, b3, b4, b5, b6, b7, b8, b9, b10, b11, b12, b13, b14, b15, v11, v86, v87, v88, v89, v90, v91, v92, v93, v94, v95, v96, v97, v98, v99, v100, rfl, rfl, HT⟩ hi
              obtain ⟨hi_, hib⟩ := ready_lt hi
              have HTH := Lib.hid HT
              match i, hi_, hi, hib with
              | 0, _, hi, hib =>
                obtain rfl : b0 = false := hib
                have h4 : b4 = false := by cases hb : b4 with | false => rfl | true => (have := (HT.d4 hb).1; cases this)
                subst h4
                have h10 : b10 = false := by cases hb : b10 with | false => rfl | true => (have := (HT.d10 hb).1; cases this)
                subst h10
                have h14 : b14 = false := by cases hb : b14 with | false => rfl | true => (have := (HT.d14 hb).1; cases this)
                subst h14
                have h15 : b15 = false := by cases hb : b15 with | false => rfl | true => (have := (HT.d15 hb); cases this)
                subst h15
                have HP := Lib.hid HT.par
                clear HT
                refine wpOp_one rfl rfl (fun K hK => ?_)
                go_simp
                exact hK.out _ _ ⟨true, b1, b2, b3, false, b5, b6, b7, b8, b9, false, b11, b12, b13, false, false, _, _, _, _, _, _, _, _, _, _, _, _, _, _, _, _, rfl, rfl, { HTH.out with par := HP.out.lit 0 #[] 3 1 0 rfl (by unfold maxLen; omega), d4 := nofun, d10 := nofun, d14 := nofun, d15 := nofun, h15 := nofun }⟩
              | 1, _, hi, hib =>
                obtain rfl : b1 = false := hib
                have h3 : b3 = false := by cases hb : b3 with | false => rfl | true => (have := (HT.d3 hb).1; cases this)
                subst h3
                have h4 : b4 = false := by cases hb : b4 with | false => rfl | true => (have := (HT.d4 hb).2; cases this)
                subst h4
                have h10 : b10 = false := by cases hb : b10 with | false => rfl | true => (have := (HT.d10 hb).1; cases this)
                subst h10
                have h14 : b14 = false := by cases hb : b14 with | false => rfl | true => (have := (HT.d14 hb).1; cases this)
                subst h14
                have h15 : b15 = false := by cases hb : b15 with | false => rfl | true => (have := (HT.d15 hb); cases this)
                subst h15
                obtain rfl := HT.o15 rfl
                clear HT
                refine wpOp_one rfl rfl (fun K hK => ?_)
                go_simp
                exact hK.out _ _ ⟨b0, true, b2, false, false, b5, b6, b7, b8, b9, false, b11, b12, b13, false, false, _, _, _, _, _, _, _, _, _, _, _, _, _, _, _, _, rfl, rfl, { HTH.out with h1 := fun _ => rfl, d3 := nofun }⟩
              | 2, _, hi, hib =>
                clear HT
                refine wpOp_one rfl rfl (fun K hK => ?_)
                go_simp
                exact hK.out _ _ ⟨b0, b1, true, b3, b4, b5, b6, b7, b8, b9, b10, b11, b12, b13, b14, b15, _, _, _, _, _, _, _, _, _, _, _, _, _, _, _, _, rfl, rfl, { HTH.out with h2 := fun _ => rfl, d3 := fun h => ⟨(HTH.out.d3 h).1, rfl⟩ }⟩
              | 3, _, hi, hib =>
                have d1 : b1 = true := ready_dep hi rfl 1 (by kernel_rfl)
                obtain rfl := HT.h1 d1
                have d2 : b2 = true := ready_dep hi rfl 2 (by kernel_rfl)
                obtain rfl := HT.h2 d2
                clear HT
                refine wpOp_one rfl rfl (fun K hK => ?_)
                go_simp
                exact hK.out _ _ ⟨b0, b1, b2, true, b4, b5, b6, b7, b8, b9, b10, b11, b12, b13, b14, b15, _, _, _, _, _, _, _, _, _, _, _, _, _, _, _, _, rfl, rfl, { HTH.out with h3 := fun _ => rfl, d3 := fun _ => ⟨d1, d2⟩, d4 := fun h => ⟨(HTH.out.d4 h).1, rfl⟩ }⟩
              | 4, _, hi, hib =>
                obtain rfl : b4 = false := hib
                have d0 : b0 = true := ready_dep hi rfl 0 (by kernel_rfl)
                obtain rfl := d0
                have d3 : b3 = true := ready_dep hi rfl 3 (by kernel_rfl)
                obtain rfl := HT.h3 d3
                have h10 : b10 = false := by cases hb : b10 with | false => rfl | true => (have := (HT.d10 hb).1; cases this)
                subst h10
                have h14 : b14 = false := by cases hb : b14 with | false => rfl | true => (have := (HT.d14 hb).1; cases this)
                subst h14
                have h15 : b15 = false := by cases hb : b15 with | false => rfl | true => (have := (HT.d15 hb); cases this)
                subst h15
                have HP := Lib.hid HT.par
                have HS : Hid (Src w' A k 1 (ints (L.take k))) := Lib.hid (HS1.out _ HTH.out.par.fr)
                clear HT
                refine wpOp_one rfl rfl (fun K hK => ?_)
                simp only [List.getElem_toArray, List.getElem_cons_succ, List.getElem_cons_zero]
                refine wp_app_src (.tmp 86) (.tmp 89) elemT_int rfl (v := v86) (n := 0) (xs := []) rfl (HP.out.own 0 _ rfl) (D := A) (m := k) (c := c) (news := ints (L.take k)) rfl HS.out (by unfold maxLen; omega) (by omega) (Nat.le_trans HP.out.le HP.out.fr.size) ?_
                intro v' w2 ho hg hb
                exact hK.out _ _ ⟨true, b1, b2, b3, true, b5, b6, b7, b8, b9, false, b11, b12, b13, false, false, _, _, _, _, _, _, _, _, _, _, _, _, _, _, _, _, rfl, rfl, { HTH.out with par := HP.out.app 0 rfl ho hg hb, d4 := fun _ => ⟨rfl, d3⟩, d10 := nofun, d14 := nofun, d15 := nofun, h15 := nofun }⟩
              | 5, _, hi, hib =>
                clear HT
                refine wpOp_one rfl rfl (fun K hK => ?_)
                go_simp
                exact hK.out _ _ ⟨b0, b1, b2, b3, b4, true, b6, b7, b8, b9, b10, b11, b12, b13, b14, b15, _, _, _, _, _, _, _, _, _, _, _, _, _, _, _, _, rfl, rfl, { HTH.out with h5 := fun _ => rfl, d7 := fun h => ⟨rfl, (HTH.out.d7 h).2⟩ }⟩
              | 6, _, hi, hib =>
                clear HT
                refine wpOp_one rfl rfl (fun K hK => ?_)
                go_simp
                exact hK.out _ _ ⟨b0, b1, b2, b3, b4, b5, true, b7, b8, b9, b10, b11, b12, b13, b14, b15, _, _, _, _, _, _, _, _, _, _, _, _, _, _, _, _, rfl, rfl, { HTH.out with h6 := fun _ => rfl, d7 := fun h => ⟨(HTH.out.d7 h).1, rfl⟩ }⟩
              | 7, _, hi, hib =>
                have d5 : b5 = true := ready_dep hi rfl 5 (by kernel_rfl)
                obtain rfl := HT.h5 d5
                have d6 : b6 = true := ready_dep hi rfl 6 (by kernel_rfl)
                obtain rfl := HT.h6 d6
                clear HT
                refine wpOp_one rfl rfl (fun K hK => ?_)
                go_simp
                exact hK.out _ _ ⟨b0, b1, b2, b3, b4, b5, b6, true, b8, b9, b10, b11, b12, b13, b14, b15, _, _, _, _, _, _, _, _, _, _, _, _, _, _, _, _, rfl, rfl, { HTH.out with h7 := fun _ => rfl, d7 := fun _ => ⟨d5, d6⟩, d8 := fun h => rfl }⟩
              | 8, _, hi, hib =>
                have d7 : b7 = true := ready_dep hi rfl 7 (by kernel_rfl)
                obtain rfl := HT.h7 d7
                have hcl := HCL.out _ HT.par.fr
                clear HT
                refine wpOp_one rfl rfl (fun K hK => ?_)
                go_simp
                exact hK.out _ _ ⟨b0, b1, b2, b3, b4, b5, b6, b7, true, b9, b10, b11, b12, b13, b14, b15, _, _, _, _, _, _, _, _, _, _, _, _, _, _, _, _, rfl, rfl, { HTH.out with h8 := fun _ => rfl, d8 := fun _ => d7, d9 := fun h => rfl }⟩
              | 9, _, hi, hib =>
                obtain rfl : b9 = false := hib
                have d8 : b8 = true := ready_dep hi rfl 8 (by kernel_rfl)
                obtain rfl := HT.h8 d8
                have h10 : b10 = false := by cases hb : b10 with | false => rfl | true => (have := (HT.d10 hb).2; cases this)
                subst h10
                have h14 : b14 = false := by cases hb : b14 with | false => rfl | true => (have := (HT.d14 hb).1; cases this)
                subst h14
                have h15 : b15 = false := by cases hb : b15 with | false => rfl | true => (have := (HT.d15 hb); cases this)
                subst h15
                have HP := Lib.hid HT.par
                clear HT
                refine wpOp_one rfl rfl (fun K hK => ?_)
                go_simp
                exact hK.out _ _ ⟨b0, b1, b2, b3, b4, b5, b6, b7, b8, true, false, b11, b12, b13, false, false, _, _, _, _, _, _, _, _, _, _, _, _, _, _, _, _, rfl, rfl, { HTH.out with par := HP.out.lit 1 #[.int .i64 x] 3 1 1 rfl (by unfold maxLen; omega), d9 := fun _ => d8, d10 := nofun, d14 := nofun, d15 := nofun, h15 := nofun }⟩
              | 10, _, hi, hib =>
                obtain rfl : b10 = false := hib
                have d4 : b4 = true := ready_dep hi rfl 4 (by kernel_rfl)
                obtain rfl := d4
                have d9 : b9 = true := ready_dep hi rfl 9 (by kernel_rfl)
                obtain rfl := d9
                have h14 : b14 = false := by cases hb : b14 with | false => rfl | true => (have := (HT.d14 hb).1; cases this)
                subst h14
                have h15 : b15 = false := by cases hb : b15 with | false => rfl | true => (have := (HT.d15 hb); cases this)
                subst h15
                obtain ⟨A9, c9, hv9⟩ := own_slice (HT.par.own 1 _ rfl)
                dsimp only at hv9
                obtain rfl := hv9
                have HO9 := Lib.hid (HT.par.own 1 _ rfl)
                have HP := Lib.hid HT.par
                have HS : Hid (Src w' A9 1 1 [.int .i64 x]) := Lib.hid (src_own HO9.out (by simp [Value.oneCell']))
                clear HT
                refine wpOp_one rfl rfl (fun K hK => ?_)
                simp only [List.getElem_toArray, List.getElem_cons_succ, List.getElem_cons_zero]
                refine wp_app_src (.tmp 90) (.tmp 95) elemT_int rfl (v := v90) (n := 0 + k) (xs := [] ++ (ints (L.take k))) rfl (HP.out.own 0 _ rfl) (D := A9) (m := 1) (c := c9) (news := [.int .i64 x]) rfl HS.out (by unfold maxLen; omega) (by omega) (Nat.le_trans HP.out.le HP.out.fr.size) ?_
                intro v' w2 ho hg hb
                exact hK.out _ _ ⟨b0, b1, b2, b3, true, b5, b6, b7, b8, true, true, b11, b12, b13, false, false, _, _, _, _, _, _, _, _, _, _, _, _, _, _, _, _, rfl, rfl, { HTH.out with par := HP.out.app 0 rfl ho hg hb, d10 := fun _ => ⟨rfl, rfl⟩, d14 := nofun, d15 := nofun, h15 := nofun }⟩
              | 11, _, hi, hib =>
                obtain rfl : b11 = false := hib
                have h13 : b13 = false := by cases hb : b13 with | false => rfl | true => (have := (HT.d13 hb).1; cases this)
                subst h13
                have h14 : b14 = false := by cases hb : b14 with | false => rfl | true => (have := (HT.d14 hb).2; cases this)
                subst h14
                have h15 : b15 = false := by cases hb : b15 with | false => rfl | true => (have := (HT.d15 hb); cases this)
                subst h15
                obtain rfl := HT.o15 rfl
                clear HT
                refine wpOp_one rfl rfl (fun K hK => ?_)
                go_simp
                exact hK.out _ _ ⟨b0, b1, b2, b3, b4, b5, b6, b7, b8, b9, b10, true, b12, false, false, false, _, _, _, _, _, _, _, _, _, _, _, _, _, _, _, _, rfl, rfl, { HTH.out with h11 := fun _ => rfl, d13 := nofun }⟩
              | 12, _, hi, hib =>
                clear HT
                refine wpOp_one rfl rfl (fun K hK => ?_)
                go_simp
                exact hK.out _ _ ⟨b0, b1, b2, b3, b4, b5, b6, b7, b8, b9, b10, b11, true, b13, b14, b15, _, _, _, _, _, _, _, _, _, _, _, _, _, _, _, _, rfl, rfl, { HTH.out with h12 := fun _ => rfl, d13 := fun h => ⟨(HTH.out.d13 h).1, rfl⟩ }⟩
              | 13, _, hi, hib =>
                have d11 : b11 = true := ready_dep hi rfl 11 (by kernel_rfl)
                obtain rfl := HT.h11 d11
                have d12 : b12 = true := ready_dep hi rfl 12 (by kernel_rfl)
                obtain rfl := HT.h12 d12
                clear HT
                refine wpOp_one rfl rfl (fun K hK => ?_)
                go_simp
                exact hK.out _ _ ⟨b0, b1, b2, b3, b4, b5, b6, b7, b8, b9, b10, b11, b12, true, b14, b15, _, _, _, _, _, _, _, _, _, _, _, _, _, _, _, _, rfl, rfl, { HTH.out with h13 := fun _ => rfl, d13 := fun _ => ⟨d11, d12⟩, d14 := fun h => ⟨(HTH.out.d14 h).1, rfl⟩ }⟩
              | 14, _, hi, hib =>
                obtain rfl : b14 = false := hib
                have d10 : b10 = true := ready_dep hi rfl 10 (by kernel_rfl)
                obtain rfl := d10
                have d13 : b13 = true := ready_dep hi rfl 13 (by kernel_rfl)
                obtain rfl := HT.h13 d13
                have h15 : b15 = false := by cases hb : b15 with | false => rfl | true => (have := (HT.d15 hb); cases this)
                subst h15
                have HP := Lib.hid HT.par
                have HS : Hid (Src w' DD (L.length - k) 1 (ints (L.drop k))) := Lib.hid (HS2.out _ HTH.out.par.fr)
                clear HT
                refine wpOp_one rfl rfl (fun K hK => ?_)
                simp only [List.getElem_toArray, List.getElem_cons_succ, List.getElem_cons_zero]
                refine wp_app_src (.tmp 96) (.tmp 99) elemT_int rfl (v := v96) (n := (0 + k) + 1) (xs := [] ++ (ints (L.take k)) ++ [.int .i64 x]) rfl (HP.out.own 0 _ rfl) (D := DD) (m := (L.length - k)) (c := (c - k)) (news := ints (L.drop k)) rfl HS.out (by unfold maxLen; omega) (by omega) (Nat.le_trans HP.out.le HP.out.fr.size) ?_
                intro v' w2 ho hg hb
                exact hK.out _ _ ⟨b0, b1, b2, b3, b4, b5, b6, b7, b8, b9, true, b11, b12, b13, true, false, _, _, _, _, _, _, _, _, _, _, _, _, _, _, _, _, rfl, rfl, { HTH.out with par := HP.out.app 0 rfl ho hg hb, d14 := fun _ => ⟨rfl, d13⟩, d15 := nofun, h15 := nofun }⟩
              | 15, _, hi, hib =>
                have d14 : b14 = true := ready_dep hi rfl 14 (by kernel_rfl)
                obtain rfl := d14
                clear HT
                refine wpOp_one rfl rfl (fun K hK => ?_)
                go_simp
                exact hK.out _ _ ⟨b0, b1, b2, b3, b4, b5, b6, b7, b8, b9, b10, b11, b12, b13, true, true, _, _, _, _, _, _, _, _, _, _, _, _, _, _, _, _, rfl, rfl, { HTH.out with h15 := fun _ => rfl, d15 := fun _ => rfl, o15 := nofun }⟩
            case fin =>
              rintro l a' w' ⟨b0, b1, b2, b3, b4, b5, b6, b7, b8, b9, b10, b11, b12, b13, b14, b15, v11, v86, v87, v88, v89, v90, v91, v92, v93, v94, v95, v96, v97, v98, v99, v100, rfl, rfl, HT⟩ hr
              obtain rfl : b0 = true := by
                cases b0 with
                | true => rfl
                | false => exact (ready_in 0 rfl rfl (by simp [Region.binds]) hr).elim
              obtain rfl : b1 = true := by
                cases b1 with
                | true => rfl
                | false => exact (ready_in 1 rfl rfl (by simp [Region.binds]) hr).elim
              obtain rfl : b2 = true := by
                cases b2 with
                | true => rfl
                | false => exact (ready_in 2 rfl rfl (by simp [Region.binds]) hr).elim
              obtain rfl : b3 = true := by
                cases b3 with
                | true => rfl
                | false => exact (ready_in 3 rfl rfl (by simp [Region.binds]) hr).elim
              obtain rfl : b4 = true := by
                cases b4 with
                | true => rfl
                | false => exact (ready_in 4 rfl rfl (by simp [Region.binds]) hr).elim
              obtain rfl : b5 = true := by
                cases b5 with
                | true => rfl
                | false => exact (ready_in 5 rfl rfl (by simp [Region.binds]) hr).elim
              obtain rfl : b6 = true := by
                cases b6 with
                | true => rfl
                | false => exact (ready_in 6 rfl rfl (by simp [Region.binds]) hr).elim
              obtain rfl : b7 = true := by
                cases b7 with
                | true => rfl
                | false => exact (ready_in 7 rfl rfl (by simp [Region.binds]) hr).elim
              obtain rfl : b8 = true := by
                cases b8 with
                | true => rfl
                | false => exact (ready_in 8 rfl rfl (by simp [Region.binds]) hr).elim
              obtain rfl : b9 = true := by
                cases b9 with
                | true => rfl
                | false => exact (ready_in 9 rfl rfl (by simp [Region.binds]) hr).elim
              obtain rfl : b10 = true := by
                cases b10 with
                | true => rfl
                | false => exact (ready_in 10 rfl rfl (by simp [Region.binds]) hr).elim
              obtain rfl : b11 = true := by
                cases b11 with
                | true => rfl
                | false => exact (ready_in 11 rfl rfl (by simp [Region.binds]) hr).elim
              obtain rfl : b12 = true := by
                cases b12 with
                | true => rfl
                | false => exact (ready_in 12 rfl rfl (by simp [Region.binds]) hr).elim
              obtain rfl : b13 = true := by
                cases b13 with
                | true => rfl
                | false => exact (ready_in 13 rfl rfl (by simp [Region.binds]) hr).elim
              obtain rfl : b14 = true := by
                cases b14 with
                | true => rfl
                | false => exact (ready_in 14 rfl rfl (by simp [Region.binds]) hr).elim
              obtain rfl : b15 = true := by
                cases b15 with
                | true => rfl
                | false => exact (ready_in 15 rfl rfl (by simp [Region.binds]) hr).elim
              obtain rfl := HT.h15 rfl
              obtain ⟨A', c', e⟩ := own_slice (HT.par.own 0 _ rfl)
              dsimp only at e
              have hn' : 0 + k + 1 + (L.length - k) = L.length + 1 := by omega
              have ho := HT.par.own 0 _ rfl
              dsimp only at ho
              rw [hn'] at e ho
              obtain rfl := e
              have e3 : [] ++ ints (L.take k) ++ [.int .i64 x] ++ ints (L.drop k) = (L.take k ++ [x] ++ L.drop k).map (Value.int .i64) := by simp [ints]
              rw [e3] at ho
              have hsz9 := HB0.out.size
              have HO9 : Hid (Own w' w.heap.size (.slice A' (L.length + 1) c') (L.length + 1) (L.take k ++ [x] ++ L.drop k)) := Lib.hid (Own.less ho hsz9)
              have HB9 : Hid (Below w.heap.size w w') := Lib.hid (HB0.out.trans (HT.par.fr.below.mono hsz9))
              have HN : Hid (ToldR G ids now ask.1 (j + 1) (L.take k ++ [x] ++ L.drop k) a ok rd') := Lib.hid (by
                have h := HTO.out.put HL.out hjm (by rw [HTT.out]; have := HTN.out; omega) hkL (fun i hi => by rw [HX.out]; exact HK.out.2 i hi) (fun hi => by rw [HX.out]; exact HF.out hi) HRD.out
                rw [HX.out] at h
                exact h)
              have hl9 : (L.take k ++ [x] ++ L.drop k).length = L.length + 1 := by simp; omega
              have HL9 := Lib.hid hl9
              have hadd : IntKind.i64.wrap ((j : Int) + 1) = ((j + 1 : Nat) : Int) := by rw [IntWalk.i64_in _ (by omega)]; omega
              clear HT ho e3 hl9 hsl1 hsl2 hn'
              show _
              go_wp2_with fail
              go_roundg (m - (j + 1))
              case measure => omega
              case rel => exact ⟨j + 1, by omega, rfl, Lib.hid ⟨A', c', L.take k ++ [x] ++ L.drop k, a, ok, rd', by rw [HL9.out], rfl, rfl, rfl, by rw [HL9.out]; exact HO9.out, HN.out, by rw [HL9.out]; omega, HB9.out⟩⟩
    · have hd : decide ((j : Int) < (m : Int)) = false := by simp; omega
      obtain rfl : j = m := by omega
      obtain ⟨e1, e2, e3, e4⟩ := HT.out.end_ HL.out
      have E1 := Lib.hid e1
      have E2 := Lib.hid e2
      have E3 := Lib.hid e3
      have E4 := Lib.hid e4
      have EZ := Lib.hid HT.out.zero
      have ELX := Lib.hid HT.out.lex
      clear e1 e2 e3 e4
      have HC1 := Lib.hid (HC.out.below HB.out HC.out.lt HC.out.own.lt)
      go_wp2_with fail
      refine (next_full HC1.out HG.out).mono ?_
      rintro e w5 ⟨a', ok', rfl, hok, hlo, hz, hb5⟩
      obtain ⟨e5, e6⟩ := next_same hok hlo hz E2.out E3.out EZ.out
      subst e5 e6
      have HC5 := Lib.hid (HC1.out.below hb5 HC1.out.lt HC1.out.own.lt)
      have HO5 := Lib.hid (HO.out.kept hb5)
      have HB5 : Hid (Below w.heap.size w w5) := Lib.hid (HB.out.trans (hb5.mono HB.out.size))
      clear hb5 hlo hz hok
      go_wp2_with fail
      refine (due_own HC5.out HG.out HR.out hn).mono ?_
      rintro e w6 ⟨A6, c6, xs6, rfl, hx6, hown6, hpw6, hb6⟩
      have e7 : xs6 = L := lex_ext hpw6 ELX.out hx6.1 E1.out.1 (fun y => by rw [hx6.2 y, E1.out.2 y])
      subst e7
      have HO6 := Lib.hid hown6
      have HOL6 := Lib.hid (HO5.out.kept hb6)
      have HC6 := Lib.hid (HC5.out.below hb6 HC5.out.lt HC5.out.own.lt)
      have HB6 : Hid (Below w.heap.size w w6) := Lib.hid (HB5.out.trans (hb6.mono HB5.out.size))
      clear hb6 hown6 hpw6 hx6
      go_wp2_with fail
      refine (ints_yes (Rd.of_own HO6.out) (Rd.of_own HOL6.out) (by omega)).mono ?_
      rintro e w7 ⟨rfl, rfl⟩
      have hself : (ok' == ok') = true := by cases ok' <;> rfl
      go_wp2_with fail
      refine (ready_al HC6.out HG.out ask).mono ?_
      rintro e w7 ⟨rfl, rfl⟩
      rw [← E4.out]
      have hself2 : (rd == rd) = true := by cases rd <;> rfl
      go_wp2
      go_ret
      exact ⟨rfl, HB6.out⟩
end
end Go.Proofs.Ytinphdphloddmab
