/-
  PlanBare, over this translation: plans of a bared catalogue, pure; the law (merged of PBp and what genpb.py prints).
-/
import Derived.Test.YtminihiecloglaaGreatPAn
import Derived.Test.YtminihiecloglaaGreatCBs
import Derived.Test.YtminihiecloglaaGreatInv
namespace Go.Proofs.YtminihiecloglaaGreat
open Go.RowKit
open SemP FlP GaP DiP
set_option linter.unusedVariables false
set_option linter.unusedSimpArgs false
set_option maxRecDepth 10000
theorem bare_must {l : List Sv} {fs ts : List Int} (hf : ∀ i j : Nat, i ≠ j → i < fs.length → j < fs.length → fitsC l (i : Int) (ix fs i) (j : Int) (ix ts j) = true) {a b : Nat} (ha : a < (stL l fs ts).length) (hb : b < (stL l fs ts).length) (h : mustR l fs ts (sAt (stL l fs ts) a) (sAt (stL l fs ts) b) = true) :
    (sAt (stL l fs ts) a).1 = (sAt (stL l fs ts) b).1 ∧ (sAt (stL l fs ts) a).2 + 1 = (sAt (stL l fs ts) b).2 := by
  unfold mustR at h
  by_cases e : (sAt (stL l fs ts) a).1 = (sAt (stL l fs ts) b).1
  · rw [if_pos e] at h
    exact ⟨e, of_decide_eq_true h⟩
  · rw [if_neg e] at h
    simp only [Bool.and_eq_true, decide_eq_true_eq] at h
    obtain ⟨i, hi, ei, _⟩ := mem_stK.1 (sAt_mem ha)
    obtain ⟨j, hj, ej, _⟩ := mem_stK.1 (sAt_mem hb)
    have ei : (sAt (stL l fs ts) a).1 = (i : Int) := ei
    have ej : (sAt (stL l fs ts) b).1 = (j : Int) := ej
    have hx := hf i j (fun e2 => e (by rw [ei, ej, e2])) hi hj
    rw [ei, ej, Int.toNat_natCast, Int.toNat_natCast, hx] at h
    exact absurd h.2.2 (by decide)
theorem bare_goes {l : List Sv} {fs ts : List Int} (hf : ∀ i j : Nat, i ≠ j → i < fs.length → j < fs.length → fitsC l (i : Int) (ix fs i) (j : Int) (ix ts j) = true) (h64 : (stL l fs ts).length ≤ 64) : Goes (befG (befP l fs ts (stL l fs ts))) (stL l fs ts).length (stL l fs ts).length := by
  have hin : InN (stL l fs ts).length (befP l fs ts (stL l fs ts)) := by
    intro k hk
    have hmem : (befP l fs ts (stL l fs ts)).getD k default ∈ befP l fs ts (stL l fs ts) := getD_mem hk
    obtain ⟨h1, h2, _⟩ := mem_befP.1 hmem
    exact ⟨h1, h2⟩
  refine goes_of_rank hin h64 (fun u => (sAt (stL l fs ts) u).2.toNat) (fun u v he => ?_)
  obtain ⟨k, hk, e1, e2⟩ := he
  have hmem : (befP l fs ts (stL l fs ts)).getD k default ∈ befP l fs ts (stL l fs ts) := getD_mem hk
  obtain ⟨h1, h2, h3⟩ := mem_befP.1 hmem
  obtain ⟨_, h5⟩ := bare_must hf h1 h2 h3
  have e1' : ((befP l fs ts (stL l fs ts)).getD k default).1 = u := e1
  have e2' : ((befP l fs ts (stL l fs ts)).getD k default).2 = v := e2
  rw [e1', e2'] at h5
  have h6 : 1 ≤ (sAt (stL l fs ts) u).2 := (stK_at (sAt_mem (show u < (stL l fs ts).length by rw [← e1']; exact h1))).1
  show (sAt (stL l fs ts) u).2.toNat < (sAt (stL l fs ts) v).2.toNat
  omega
theorem bare_farQ {l : List Sv} {S : List StP} {fs ts : List Int} (hf : ∀ i j : Nat, i ≠ j → i < fs.length → j < fs.length → fitsC l (i : Int) (ix fs i) (j : Int) (ix ts j) = true) {i : Nat} (hi : i < fs.length) : ∀ k, k ≤ fs.length → farQ l S fs ts i k = []
  | 0, _ => rfl
  | k + 1, hk => by
    rw [farQ_succ, bare_farQ hf hi k (by omega)]
    have : mustB l S fs ts i k = false := by
      unfold mustB
      by_cases e : i = k
      · subst e; simp
      · rw [hf i k e hi (by omega)]; simp
    rw [this]; rfl
theorem one_stAt (l : List Sv) (fs ts : List Int) (i : Nat) : (stAt l fs ts i).countP (fun x => x.2 == 1) = if ix fs i = ix ts i ∨ rise l fs ts i = 0 then 0 else 1 := by
  unfold stAt
  by_cases h1 : ix fs i = ix ts i
  · simp [h1]
  · by_cases h2 : rise l fs ts i = 0
    · simp [h1, h2]
    · simp [h1, h2]
theorem one_in {l : List Sv} {fs ts : List Int} {i : Nat} (hi : i < fs.length) : ((i : Int), (1 : Int)) ∈ stL l fs ts ↔ ¬ (ix fs i = ix ts i ∨ rise l fs ts i = 0) := by
  unfold stL
  rw [mem_stK]
  constructor
  · rintro ⟨i', _, e, hne, hr⟩
    obtain rfl : i = i' := by have : (i : Int) = i' := e; omega
    rcases hr with hr | hr
    · exact absurd (show (1 : Int) = 2 from hr) (by decide)
    · exact fun h => h.elim hne hr.1
  · intro h
    exact ⟨i, hi, rfl, fun e => h (.inl e), .inr ⟨fun e => h (.inr e), .inl rfl⟩⟩
theorem bare_len {l : List Sv} {fs ts : List Int} (hf : ∀ i j : Nat, i ≠ j → i < fs.length → j < fs.length → fitsC l (i : Int) (ix fs i) (j : Int) (ix ts j) = true) : (befP l fs ts (stL l fs ts)).length = 2 * (stL l fs ts).countP (fun x => x.2 == 1) := by
  have hp : (befP l fs ts (stL l fs ts)).Perm ((ordQ l (stL l fs ts) fs ts fs.length fs.length).map (pl2 (stL l fs ts))) := by
    refine (List.perm_ext_iff_of_nodup ?_ ord_nodup).2 (fun p => (mem_ord_bef p).symm)
    unfold List.Nodup
    refine List.Pairwise.imp ?_ (befK_sorted l fs ts (stL l fs ts) (stL l fs ts).length)
    intro x y h e
    subst e
    exact ltP_irrefl _ h
  rw [hp.length_eq, List.length_map]
  have key : ∀ k, k ≤ fs.length → (ordQ l (stL l fs ts) fs ts fs.length k).length = 2 * (stK l fs ts k).countP (fun x => x.2 == 1) := by
    intro k
    induction k with
    | zero => intro _; rfl
    | succ k ih =>
      intro hk
      rw [ordQ_succ, List.length_append, ih (by omega), stK_succ, List.countP_append, Nat.mul_add, one_stAt]
      congr 1
      unfold atQ
      rw [bare_farQ hf (show k < fs.length by omega) _ (Nat.le_refl _), List.append_nil]
      unfold ownQ
      by_cases h : ix fs k = ix ts k ∨ rise l fs ts k = 0
      · rw [if_neg (fun e => (one_in (by omega)).1 e h), if_pos h]; rfl
      · rw [if_pos ((one_in (by omega)).2 h), if_neg h]; rfl
  exact key _ (Nat.le_refl _)
theorem Bared.fits {l l2 : List Sv} (h : Bared l l2) {fs ts : List Int} (hsf : setB l2 fs = true) (hst : setB l2 ts = true) (i j : Nat) (hij : i ≠ j) (hi : i < fs.length) (hj : j < fs.length) : fitsC l2 (i : Int) (ix fs i) (j : Int) (ix ts j) = true := by
  obtain ⟨f1, f2⟩ := setB_iff.1 hsf
  obtain ⟨t1, t2⟩ := setB_iff.1 hst
  have b1 : ∀ (i : Int) v (j : Int) x, isR l2 i v = true → bearsB l2 i v j x = true := fun i v j x hr => by
    obtain ⟨a, b, rfl, rfl, ha, hb⟩ := isR_nat hr
    rw [h.len] at ha
    unfold bearsB
    rw [Int.toNat_natCast, Int.toNat_natCast, h.no a ha b (by rw [← (h.sub a ha).2.1]; exact hb)]
    rfl
  have r1 := f2 i hi
  have r2 := t2 j (by omega)
  unfold fitsC
  rw [decide_eq_true (show (i : Int) ≠ (j : Int) by omega), r1, r2, b1 _ _ _ _ r1, b1 _ _ _ _ r2]
  rfl
theorem Bared.make {l l2 : List Sv} (h : Bared l l2) (hl : LevOK l2) (hs : SmCat l2) (fs ts : List Int) (h21 : l2.length ≤ 21) : makeE l2 fs ts = 0 ∨ makeE l2 fs ts = 42 ∨ makeE l2 fs ts = 43 := by
  unfold makeE
  by_cases hc : chkE l2 fs ts = 0
  · obtain ⟨h1, h2, _⟩ := chkE_ok hc
    have h48 : (stL l2 fs ts).length ≤ 64 := by
      have := stK_len l2 fs ts fs.length
      have := (setB_iff.1 h1).1
      unfold stL; omega
    rw [if_pos hc, if_pos (bare_goes (h.fits h1 h2) h48)]
    exact .inl rfl
  · rw [if_neg hc]
    unfold chkE at hc ⊢
    cases h1 : setB l2 fs with
    | false => exact .inr (.inl (by rw [if_pos (.inl rfl)]))
    | true =>
      cases h2 : setB l2 ts with
      | false => exact .inr (.inl (by rw [if_pos (.inr rfl)]))
      | true =>
        rw [h1, h2, h.good hl hs h1, h.good hl hs h2] at hc
        rw [h.good hl hs h1, h.good hl hs h2]
        rw [if_neg (by simp), if_neg (by simp)] at hc ⊢
        by_cases h3 : (List.range fs.length).all (riseB l2 fs ts) = false
        · rw [if_pos h3]; exact .inr (.inr rfl)
        · rw [if_neg h3] at hc; exact absurd rfl hc
theorem makeE_okB {l : List Sv} {fs ts : List Int} (h : makeE l fs ts = 0) : chkE l fs ts = 0 := by
  unfold makeE at h
  by_cases h1 : chkE l fs ts = 0
  · exact h1
  · rw [if_neg h1] at h; exact absurd h h1
end Go.Proofs.YtminihiecloglaaGreat
namespace Go.Proofs.YtminihiecloglaaGreat
open Go.RowKit
open SemP FlP GaP DiP
set_option linter.unusedVariables false
set_option linter.unusedSimpArgs false
set_option maxRecDepth 10000
theorem take_snocB {S : List StP} {k : Nat} (h : k < S.length) : S.take (k + 1) = S.take k ++ [sAt S k] := by
  rw [List.take_add_one]; simp [sAt, List.getD, h]
theorem set2_same {w : World} {g : Nat} {x y a b : Value} {t : TypeId} (h : w.heap[g]? = some (.cells #[x, y] t (0, 0))) :
    ((w.setCell ⟨g, 0, none⟩ a).setCell ⟨g, 1, none⟩ b).heap[g]? = some (.cells #[a, b] t (0, 0)) := by
  have h1 := heap_setCell_same w g 0 _ _ a h
  exact heap_setCell_same _ g 1 _ _ b h1
theorem set2_other {w : World} {g k : Nat} {a b : Value} (h : k ≠ g) : ((w.setCell ⟨g, 0, none⟩ a).setCell ⟨g, 1, none⟩ b).heap[k]? = w.heap[k]? :=
  (Go.Deep.blk_setCell_other _ ⟨g, 1, none⟩ b k h).trans (Go.Deep.blk_setCell_other w ⟨g, 0, none⟩ a k h)
structure BxSt (X : World) (h12 g18 bS oS N cS u x : Nat) (a1 a2 c1 c2 : Int) (b0 b1 b2 b3 b4 b5 b6 b7 b8 b9 b10 b11 b12 b13 b14 b15 : Bool) (v19 v20 v104 v105 v106 v107 v108 v109 v110 v111 v112 v113 v114 v115 : Value) (w' : World) : Prop where
  bel : Below X.heap.size X w'
  h0 : b0 = true → v104 = .pointer (some ⟨h12, 2, none⟩)
  h1 : b1 = true → v105 = .slice (some ⟨bS, oS, none⟩) N cS
  h2 : b2 = true → v106 = .pointer (some ⟨g18, 0, none⟩)
  h3 : b3 = true → v107 = .int .i64 (u : Int)
  h4 : b4 = true → v108 = .pointer (some ⟨bS, oS + u * 2, none⟩)
  h5 : b5 = true → v109 = .agg #[.int .i64 a1, .int .i64 a2]
  h6 : b6 = true → v110 = .pointer (some ⟨h12, 2, none⟩)
  h7 : b7 = true → v111 = .slice (some ⟨bS, oS, none⟩) N cS
  h8 : b8 = true → v112 = .pointer (some ⟨g18, 1, none⟩)
  h9 : b9 = true → v113 = .int .i64 (x : Int)
  h10 : b10 = true → v114 = .pointer (some ⟨bS, oS + x * 2, none⟩)
  h11 : b11 = true → v115 = .agg #[.int .i64 c1, .int .i64 c2]
  z12 : b12 = true → ∃ g, v19 = .pointer (some ⟨g, 0, none⟩) ∧ X.heap.size ≤ g ∧ w'.heap[g]? = some (.cells (bif b14 then #[.int .i64 a1, .int .i64 a2] else #[.int .i64 0, .int .i64 0]) 64 (0, 0))
  z13 : b13 = true → ∃ g, v20 = .pointer (some ⟨g, 0, none⟩) ∧ X.heap.size ≤ g ∧ w'.heap[g]? = some (.cells (bif b15 then #[.int .i64 c1, .int .i64 c2] else #[.int .i64 0, .int .i64 0]) 64 (0, 0))
  hd : b12 = true → b13 = true → v19 ≠ v20
  o1_0 : b1 = true → b0 = true
  o3_2 : b3 = true → b2 = true
  o4_1 : b4 = true → b1 = true
  o4_3 : b4 = true → b3 = true
  o5_4 : b5 = true → b4 = true
  o7_6 : b7 = true → b6 = true
  o9_8 : b9 = true → b8 = true
  o10_7 : b10 = true → b7 = true
  o10_9 : b10 = true → b9 = true
  o11_10 : b11 = true → b10 = true
  o14_12 : b14 = true → b12 = true
  o14_5 : b14 = true → b5 = true
  o15_13 : b15 = true → b13 = true
  o15_11 : b15 = true → b11 = true
  o15_14 : b15 = true → b14 = true
inductive BxJ (X : World) (h12 g18 bS oS N cS u x : Nat) (a1 a2 c1 c2 : Int) (p0 p1 p2 p3 p4 p5 p6 p7 p8 p9 p10 p11 p12 p13 p14 p15 p16 p17 p18 p21 p22 p23 p24 p25 p26 p27 p28 p29 p30 p31 p32 p33 p34 p35 p36 p37 p38 p39 p40 p41 p42 p43 p44 p45 p46 p47 p48 p49 p50 p51 p52 p53 p54 p55 p56 p57 p58 p59 p60 p61 p62 p63 p64 p65 p66 p67 p68 p69 p70 p71 p72 p73 p74 p75 p76 p77 p78 p79 p80 p81 p82 p83 p84 p85 p86 p87 p88 p89 p90 p91 p92 p93 p94 p95 p96 p97 p98 p99 p100 p101 p102 p103 p116 p117 p118 p119 p120 p121 p122 p123 p124 p125 p126 p127 p128 p129 p130 p131 p132 p133 p134 p135 : Value) : Array Bool → Act → World → Prop where
  | mk (b0 b1 b2 b3 b4 b5 b6 b7 b8 b9 b10 b11 b12 b13 b14 b15 : Bool) (v19 v20 v104 v105 v106 v107 v108 v109 v110 v111 v112 v113 v114 v115 : Value) (w' : World) : BxSt X h12 g18 bS oS N cS u x a1 a2 c1 c2 b0 b1 b2 b3 b4 b5 b6 b7 b8 b9 b10 b11 b12 b13 b14 b15 v19 v20 v104 v105 v106 v107 v108 v109 v110 v111 v112 v113 v114 v115 w' → BxJ X h12 g18 bS oS N cS u x a1 a2 c1 c2 p0 p1 p2 p3 p4 p5 p6 p7 p8 p9 p10 p11 p12 p13 p14 p15 p16 p17 p18 p21 p22 p23 p24 p25 p26 p27 p28 p29 p30 p31 p32 p33 p34 p35 p36 p37 p38 p39 p40 p41 p42 p43 p44 p45 p46 p47 p48 p49 p50 p51 p52 p53 p54 p55 p56 p57 p58 p59 p60 p61 p62 p63 p64 p65 p66 p67 p68 p69 p70 p71 p72 p73 p74 p75 p76 p77 p78 p79 p80 p81 p82 p83 p84 p85 p86 p87 p88 p89 p90 p91 p92 p93 p94 p95 p96 p97 p98 p99 p100 p101 p102 p103 p116 p117 p118 p119 p120 p121 p122 p123 p124 p125 p126 p127 p128 p129 p130 p131 p132 p133 p134 p135 #[b0, b1, b2, b3, b4, b5, b6, b7, b8, b9, b10, b11, b12, b13, b14, b15] { tmps := List.toArray (p0 :: p1 :: p2 :: p3 :: p4 :: p5 :: p6 :: p7 :: p8 :: p9 :: p10 :: p11 :: p12 :: p13 :: p14 :: p15 :: p16 :: p17 :: p18 :: v19 :: v20 :: p21 :: p22 :: p23 :: p24 :: p25 :: p26 :: p27 :: p28 :: p29 :: p30 :: p31 :: p32 :: p33 :: p34 :: p35 :: p36 :: p37 :: p38 :: p39 :: p40 :: p41 :: p42 :: p43 :: p44 :: p45 :: p46 :: p47 :: p48 :: p49 :: p50 :: p51 :: p52 :: p53 :: p54 :: p55 :: p56 :: p57 :: p58 :: p59 :: p60 :: p61 :: p62 :: p63 :: p64 :: p65 :: p66 :: p67 :: p68 :: p69 :: p70 :: p71 :: p72 :: p73 :: p74 :: p75 :: p76 :: p77 :: p78 :: p79 :: p80 :: p81 :: p82 :: p83 :: p84 :: p85 :: p86 :: p87 :: p88 :: p89 :: p90 :: p91 :: p92 :: p93 :: p94 :: p95 :: p96 :: p97 :: p98 :: p99 :: p100 :: p101 :: p102 :: p103 :: v104 :: v105 :: v106 :: v107 :: v108 :: v109 :: v110 :: v111 :: v112 :: v113 :: v114 :: v115 :: p116 :: p117 :: p118 :: p119 :: p120 :: p121 :: p122 :: p123 :: p124 :: p125 :: p126 :: p127 :: p128 :: p129 :: p130 :: p131 :: p132 :: p133 :: p134 :: p135 :: []), defers := [] } w'
set_option maxHeartbeats 16000000 in
theorem law_bareP {w : World} {n c : Nat} {A : Option Addr} {l : List Sv} {A2 A3 : Option Addr} {m c2 m3 c3 : Nat} {fs ts : List Int} (hr : RdJ 2 svI w (fun b => w.heap.size ≤ b) A n l) (hcap : CapA A n c) (hf : Rd w w.heap.size A2 m fs) (ht : Rd w w.heap.size A3 m3 ts) (hm : LenAt w) (h1 : 1 < w.heap.size) :
    Calls Tryz.prog 10 #[.agg #[.slice A n c], .slice A2 m c2, .slice A3 m3 c3] w fun e w' => e = .returned (.bool true) ∧ Below w.heap.size w w' := by
  have HR := Lib.hid hr
  have HC := Lib.hid hcap
  have HF := Lib.hid hf
  have HT := Lib.hid ht
  obtain ⟨W, HW⟩ : ∃ W, Hid (W = w.alloc (.cells #[.slice A n c] 24)) := ⟨_, Lib.hid rfl⟩
  have hbW : Below w.heap.size w W := by rw [HW.out]; exact (Below.refl _ w).alloc (Nat.le_refl _) _
  have H0 : Hid (W.heap[w.heap.size]? = some (.cells #[.slice A n c] 24 (0, 0))) := Lib.hid (by rw [HW.out]; exact heap_new w _)
  have HLM := Lib.hid (And.intro hm h1)
  have HLW := Lib.hid (LenAt.below hm h1 hbW)
  have HBW := Lib.hid hbW
  have hsz := hbW.size
  clear hr hcap hf ht hm h1 hbW
  obtain ⟨x0, _⟩ := row1f H0.out
  have HAN := Lib.hid (panchor_any W HLW.out.1 HLW.out.2)
  go_enter Tryz.func10, Tryz.ntmps10
  go_upto_region 1 with fail
  change Code.wp _ _ _ _ (w.alloc (.cells #[.slice A n c] 24))
  rw [← HW.out]
  go_wp2_with fail
  refine HAN.out.mono ?_
  rintro e w1 ⟨rfl, hb⟩
  have HB1 : Hid (Below w.heap.size w w1) := Lib.hid (HBW.out.trans (hb.mono hsz))
  have HL1 := Lib.hid (LenAt.below HLW.out.1 HLW.out.2 hb)
  have K1 : Hid (w1.heap[w.heap.size]? = _) := Lib.hid ((hb.block w.heap.size (heapE_lt H0.out)).trans H0.out)
  clear hb x0 HAN
  obtain ⟨x0, _⟩ := row1f K1.out
  have HMC := Lib.hid (right_any (c := c) (RdJ.below sv_turns HR.out HB1.out) HB1.out.size HL1.out.1 HL1.out.2)
  go_wp2_with fail
  refine HMC.out.mono ?_
  rintro e z1 ⟨A', n', c', ok, rfl, hb, hit⟩
  obtain ⟨W2, HW2⟩ : ∃ W2, Hid (W2 = z1.alloc (.cells #[.slice A' n' c'] 29)) := ⟨_, Lib.hid rfl⟩
  have hb2 : Below z1.heap.size z1 W2 := by rw [HW2.out]; exact (Below.refl _ z1).alloc (Nat.le_refl _) _
  have hb12 : Below w1.heap.size w1 W2 := hb.trans (hb2.mono hb.size)
  have HB2 : Hid (Below w.heap.size w W2) := Lib.hid (HB1.out.trans (hb12.mono HB1.out.size))
  have HL2 := Lib.hid (LenAt.below HL1.out.1 HL1.out.2 hb12)
  have K2 : Hid (W2.heap[w.heap.size]? = _) := Lib.hid ((hb12.block w.heap.size (heapE_lt K1.out)).trans K1.out)
  have HIT := Lib.hid (fun h => And.intro (hit h).1 (hit h).2.1)
  clear hb hb2 hb12 hit x0 HMC
  go_upto_region 4 with fail
  change Code.wp _ _ _ _ (z1.alloc (.cells #[.slice A' n' c'] 29))
  rw [← HW2.out]
  cases ok with
  | false =>
    go_wp2_with fail
    refine bodyPost_ret (results_tmp rfl _ _ _) rfl ⟨rfl, HB2.out⟩
  | true =>
    obtain ⟨hck, hsm⟩ := HIT.out rfl
    have HP : Hid (CatAt W2 w.heap.size A n c l) := Lib.hid ⟨RdJ.below sv_turns HR.out HB2.out, HC.out, HB2.out.size, hsm, HL2.out.1, HL2.out.2⟩
    have HLV := Lib.hid (ck_lev hck)
    have HCK := Lib.hid hck
    have HSM := Lib.hid hsm
    have HN : Hid (l.length = n) := Lib.hid HP.out.rd.1
    clear hck hsm HIT
    by_cases hm30 : (30 : Int) < (m : Int)
    · have d1 : decide ((30 : Int) < (m : Int)) = true := decide_eq_true hm30
      go_wp2_with fail
      refine bodyPost_ret (results_tmp rfl _ _ _) rfl ⟨rfl, HB2.out⟩
    have d1 : decide ((30 : Int) < (m : Int)) = false := decide_eq_false hm30
    by_cases hm31 : (30 : Int) < (m3 : Int)
    · have d2 : decide ((30 : Int) < (m3 : Int)) = true := decide_eq_true hm31
      go_wp2_with fail
      refine bodyPost_ret (results_tmp rfl _ _ _) rfl ⟨rfl, HB2.out⟩
    have d2 : decide ((30 : Int) < (m3 : Int)) = false := decide_eq_false hm31
    have HCLN := Lib.hid (cloneCat_any HP.out)
    obtain ⟨x0, _⟩ := row1f K2.out
    go_wp2_with fail
    refine HCLN.out.mono ?_
    rintro e w3 ⟨v, base, rfl, hbase, hown, hb⟩
    obtain ⟨A1, c1, hv⟩ := hown.shape
    subst hv
    obtain ⟨gS, hgS⟩ : ∃ gS, A1 = some ⟨gS, 0, none⟩ := by
      obtain ⟨vals, ho, _⟩ := hown
      obtain ⟨gS, cap, hv, _, _⟩ := World.ownsRow.form ho (by have := (ck_len HCK.out).1; omega)
      injection hv with hv
      exact ⟨gS, hv⟩
    subst hgS
    have hbw3 : base ≤ w3.heap.size := by have := (hown.ge gS rfl); omega
    obtain ⟨W4, HW4⟩ : ∃ W4, Hid (W4 = w3.alloc (.cells #[.slice (some ⟨gS, 0, none⟩) n c1] 24)) := ⟨_, Lib.hid rfl⟩
    have hb4 : Below w3.heap.size w3 W4 := by rw [HW4.out]; exact (Below.refl _ w3).alloc (Nat.le_refl _) _
    have D4 : Hid (W4.heap[w3.heap.size]? = some (.cells #[.slice (some ⟨gS, 0, none⟩) n c1] 24 (0, 0))) := Lib.hid (by rw [HW4.out]; exact heap_new w3 _)
    have HO4 : Hid (OwnJ 89 2 svO W4 base (.slice (some ⟨gS, 0, none⟩) l.length c1) l) := Lib.hid (hown.kept svO_turns hb4)
    have hb24 : Below W2.heap.size W2 W4 := hb.trans (hb4.mono hb.size)
    have HB4 : Hid (Below w.heap.size w W4) := Lib.hid (HB2.out.trans (hb24.mono HB2.out.size))
    have HL4 := Lib.hid (LenAt.below HL2.out.1 HL2.out.2 hb24)
    have HBS : Hid (W2.heap.size ≤ base ∧ base ≤ w3.heap.size) := Lib.hid ⟨hbase, hbw3⟩
    rw [HN.out]
    clear hown hb hb4 hb24 HCLN x0 hbase hbw3
    go_upto_region 7 with fail
    change Code.wp _ _ _ _ (w3.alloc (.cells #[.slice (some ⟨gS, 0, none⟩) n c1] 24))
    rw [← HW4.out]
    obtain ⟨x0, _⟩ := row1f D4.out
    go_wp2_with fail
    clear x0
    go_loopw [10, 11, 45] (fun _ _ vk wr => ∃ (k : Nat) (l2 : List Sv), k ≤ n ∧ vk = .int .i64 (k : Int) ∧ Hid (OwnJ 89 2 svO wr base (.slice (some ⟨gS, 0, none⟩) l2.length c1) l2) ∧ Hid (l2.length = l.length ∧ ∀ j, j < l.length → SubS (svAt l j) (svAt l2 j)) ∧ Hid (∀ j, j < l.length → ∀ b, b < (svAt l j).2.length → j < k → (rlAt (svAt l2 j).2 b).2.2 = []) ∧ Hid (Below base W4 wr) ∧ Hid (wr.heap[w3.heap.size]? = some (.cells #[.slice (some ⟨gS, 0, none⟩) n c1] 24 (0, 0)))) (fun _ _ vk _ => n - (intOf vk).toNat)
    case atStart => exact ⟨0, l, Nat.zero_le _, rfl, HO4, Lib.hid ⟨rfl, fun j _ => SubS.refl _⟩, Lib.hid (fun j _ b _ h => absurd h (by omega)), Lib.hid (Below.refl _ _), D4⟩
    case round =>
      obtain ⟨wo, hwo⟩ : ∃ x, x = wr := ⟨_, rfl⟩
      subst hwo
      obtain ⟨k, l2, hk, rfl, HO, HSB, HDN, HBo, HD⟩ := hrel
      by_cases hkn : k < n
      · have hd : decide ((k : Int) < (n : Int)) = true := by simp; omega
        have hki : (k : Int) < (n : Int) := by omega
        have hk0 : (0 : Int) ≤ (k : Int) := by omega
        have hn16 : n ≤ 16 := HP.out.n16
        have hadd : IntKind.i64.wrap ((k : Int) + 1) = ((k + 1 : Nat) : Int) := by rw [IntWalk.i64_in _ (by omega)]; omega
        have HKL : Hid (k < l.length) := Lib.hid (by rw [HN.out]; exact hkn)
        have HSK := Lib.hid (HSB.out.2 k HKL.out)
        obtain ⟨nk, HNK⟩ : ∃ nk, Hid ((svAt l k).2.length = nk) := ⟨_, Lib.hid rfl⟩
        have hnk : nk ≤ 16 := by have := (HSM.out.2 _ (svAt_mem HKL.out)).2.1; have := HNK.out; omega
        obtain ⟨v, p0, ⟨Av, cv', hvv⟩, _⟩ := at_rel HO.out (a := k) (by rw [HSB.out.1]; exact HKL.out)
        rw [HSK.out.2.1, HNK.out] at hvv
        subst hvv
        obtain ⟨x0, _⟩ := row1f HD.out
        go_wp2_with fail
        clear x0 p0
        go_loopw [11, 55] (fun _ vq wr => ∃ (q : Nat) (l2 : List Sv), q ≤ nk ∧ vq = .int .i64 (q : Int) ∧ Hid (OwnJ 89 2 svO wr base (.slice (some ⟨gS, 0, none⟩) l2.length c1) l2) ∧ Hid (l2.length = l.length ∧ ∀ j, j < l.length → SubS (svAt l j) (svAt l2 j)) ∧ Hid (∀ j, j < l.length → ∀ b, b < (svAt l j).2.length → (j < k ∨ (j = k ∧ b < q)) → (rlAt (svAt l2 j).2 b).2.2 = []) ∧ Hid (Below base W4 wr) ∧ Hid (wr.heap[w3.heap.size]? = some (.cells #[.slice (some ⟨gS, 0, none⟩) n c1] 24 (0, 0)))) (fun _ vq _ => nk - (intOf vq).toNat)
        case atStart => exact ⟨0, l2, Nat.zero_le _, rfl, HO, HSB, Lib.hid (fun j hj b hb h => HDN.out j hj b hb (by omega)), HBo, HD⟩
        case round =>
          obtain ⟨wi, hwi⟩ : ∃ x, x = wr := ⟨_, rfl⟩
          subst hwi
          obtain ⟨q, l3, hq, rfl, HOi, HSBi, HDNi, HBi, HDi⟩ := hrel
          by_cases hqn : q < nk
          · have hd2 : decide ((q : Int) < (nk : Int)) = true := by simp; omega
            have hqi : (q : Int) < (nk : Int) := by omega
            have hq0 : (0 : Int) ≤ (q : Int) := by omega
            have hadd2 : IntKind.i64.wrap ((q : Int) + 1) = ((q + 1 : Nat) : Int) := by rw [IntWalk.i64_in _ (by omega)]; omega
            have HSKi := Lib.hid (HSBi.out.2 k HKL.out)
            obtain ⟨v, p0, _, hst⟩ := at_rel HOi.out (a := k) (by rw [HSBi.out.1]; exact HKL.out)
            obtain ⟨g, cur, cc, y, hvv, hgb, hgT, hcell, hfz⟩ := hst q (by rw [HSKi.out.2.1, HNK.out]; exact hqn)
            rw [HSKi.out.2.1, HNK.out] at hvv
            subst hvv
            obtain ⟨l4, h1, h2, h3, h4⟩ := cat_hit (b := q) hgT HOi.out
            have HO5 := Lib.hid h1
            have HSB5 : Hid (l4.length = l.length ∧ ∀ j, j < l.length → SubS (svAt l j) (svAt l4 j)) := Lib.hid ⟨by rw [h2]; exact HSBi.out.1, fun j hj => (HSBi.out.2 j hj).trans (h3 j (by rw [HSBi.out.1]; exact hj))⟩
            have HDN5 : Hid (∀ j, j < l.length → ∀ b, b < (svAt l j).2.length → (j < k ∨ (j = k ∧ b < q + 1)) → (rlAt (svAt l4 j).2 b).2.2 = []) := Lib.hid (fun j hj b hb h => by
              have s1 := HSBi.out.2 j hj
              by_cases hold : j < k ∨ (j = k ∧ b < q)
              · have o := HDNi.out j hj b hb hold
                rcases ((h3 j (by rw [HSBi.out.1]; exact hj)).2.2 b (by rw [s1.2.1]; exact hb)).2.2 with e | e
                · rw [e]; exact o
                · exact e
              · obtain ⟨rfl, rfl⟩ : j = k ∧ b = q := by omega
                exact h4 j (by rw [HSBi.out.1]; exact hj) _ p0 rfl (by rw [s1.2.1]; exact hb))
            have HB5 : Hid (Below base W4 (wi.setCell ⟨g, q * 6 + 5, none⟩ (.slice none 0 0))) := Lib.hid (HBi.out.setCell (p := ⟨g, q * 6 + 5, none⟩) hgb _)
            have HD5 : Hid ((wi.setCell ⟨g, q * 6 + 5, none⟩ (.slice none 0 0)).heap[w3.heap.size]? = some (.cells #[.slice (some ⟨gS, 0, none⟩) n c1] 24 (0, 0))) := Lib.hid ((Below.heap_setCell wi _ _ w3.heap.size (fun e => by
              have e2 : w3.heap.size = g := e
              rw [← e2, HDi.out] at hgT
              injection hgT with hgT
              injection hgT with _ hgT
              revert hgT; decide)).trans HDi.out)
            obtain ⟨x0, _⟩ := row1f HDi.out
            clear h1 h2 h3 h4 hst hgT
            go_wp2_with fail
            go_roundw
            case rel => exact ⟨q + 1, l4, by omega, by go_num, HO5, HSB5, HDN5, HB5, HD5⟩
            case measure => simp [intOf]; omega
          · have hd2 : decide ((q : Int) < (nk : Int)) = false := by simp; omega
            obtain rfl : q = nk := by omega
            go_wp2_with fail
            go_roundw
            case rel => exact ⟨k + 1, l3, by omega, by go_num, HOi, HSBi, Lib.hid (fun j hj b hb h => HDNi.out j hj b hb (by
              by_cases e : j < k
              · exact .inl e
              · obtain rfl : j = k := by omega
                exact .inr ⟨rfl, by rw [← HNK.out]; exact hb⟩)), HBi, HDi⟩
            case measure => simp [intOf]; omega
      · have hd : decide ((k : Int) < (n : Int)) = false := by simp; omega
        have HBR : Hid (Bared l l2) := Lib.hid ⟨HSB.out.1, HSB.out.2, fun j hj b hb => HDN.out j hj b hb (by rw [HN.out] at hj; omega)⟩
        have HSM2 := Lib.hid (subs_sm HSB.out.1 HSB.out.2 HSM.out)
        have HB9 : Hid (Below w.heap.size w wo) := Lib.hid (HB4.out.trans (HBo.out.mono (by have := HBS.out.1; have := HB2.out.size; omega)))
        have HL9 := Lib.hid (LenAt.below HLM.out.1 HLM.out.2 HB9.out)
        have HN2 : Hid (l2.length = n) := Lib.hid (by rw [HSB.out.1]; exact HN.out)
        have HCA : Hid (CatAt wo wo.heap.size (some ⟨gS, 0, none⟩) n c1 l2) := Lib.hid (by
          have := own_cat HO.out HSM2.out HL9.out.1 HL9.out.2
          rw [HN2.out] at this; exact this)
        have HCK2 := Lib.hid (HBR.out.chk HCK.out)
        have HLV2 : Hid (LevOK l2) := Lib.hid (ck_lev (by rw [HCK2.out]))
        have HW9 := Lib.hid HB9.out.size
        have HMK := Lib.hid (make_any (c := c1) (c2 := c2) (c3 := c3) HCA.out HLV2.out (HF.out.below HB9.out) (HT.out.below HB9.out) HW9.out HW9.out (by omega) (by omega))
        obtain ⟨ME, HME⟩ : ∃ q, Hid (makeE l2 fs ts = q) := ⟨_, Lib.hid rfl⟩
        have HN16 := Lib.hid HCA.out.n16
        rw [HME.out] at HMK
        obtain ⟨x0, _⟩ := row1f HD.out
        go_wp2_with fail
        refine HMK.out.mono ?_
        rintro e T ⟨hb, ho⟩
        have HBT : Hid (Below w.heap.size w T) := Lib.hid (HB9.out.trans (hb.mono HB9.out.size))
        clear hb x0 HMK
        rcases ho with ⟨hne, rfl⟩ | ⟨h0, v, rfl, hp⟩
        · have d3 : (ME != 0) = true := by rw [bne_iff_ne]; exact hne
          have HBX : Hid (Below w.heap.size w (T.alloc (.cells #[.slice none 0 0, .slice none 0 0, .slice none 0 0, .slice none 0 0] 35))) := Lib.hid (HBT.out.alloc HBT.out.size _)
          have h48 : l2.length ≤ 21 := by have := HN2.out; have := HN16.out; omega
          have hcase := HBR.out.make HLV2.out HSM2.out fs ts h48
          rw [HME.out] at hcase
          rcases hcase with rfl | rfl | rfl
          · exact absurd rfl hne
          · clear hne
            go_wp2_with fail
            exact bodyPost_ret (results_tmp rfl _ _ _) rfl ⟨rfl, HBX.out⟩
          · clear hne
            go_wp2_with fail
            exact bodyPost_ret (results_tmp rfl _ _ _) rfl ⟨rfl, HBX.out⟩
        have HME0 : Hid (makeE l2 fs ts = 0) := Lib.hid (by rw [HME.out]; exact h0)
        have HCE := Lib.hid (makeE_okB HME0.out)
        subst h0
        obtain ⟨AF, AT, AS, AE, mm, cF, cT, N, cS, M, cE, rfl, hlf, hlt, _, _, o3, o4⟩ := hp.ex
        have HFX := Lib.hid (HBR.out.fits (chkE_ok HCE.out).1 (chkE_ok HCE.out).2.1)
        obtain ⟨S, HSS⟩ : ∃ S, Hid (stL l2 fs ts = S) := ⟨_, Lib.hid rfl⟩
        have HMU := Lib.hid (fun a b ha hb hm => bare_must HFX.out (a := a) (b := b) ha hb hm)
        have HBL := Lib.hid (bare_len HFX.out)
        obtain ⟨es, HES⟩ : ∃ es, Hid (befP l2 fs ts S = es) := ⟨_, Lib.hid rfl⟩
        rw [HSS.out] at HMU HBL o3 o4
        rw [HES.out] at HBL o4
        have HNS : Hid (S.length = N) := Lib.hid (by obtain ⟨_, _, e⟩ := o3.shape; injection e with _ e _; exact e.symm)
        have HMS : Hid (es.length = M) := Lib.hid (by obtain ⟨_, _, e⟩ := o4.shape; injection e with _ e _; exact e.symm)
        have HMEM : Hid (∀ k, k < M → fa es k < N ∧ fb es k < N ∧ (sAt S (fa es k)).1 = (sAt S (fb es k)).1 ∧ (sAt S (fa es k)).2 + 1 = (sAt S (fb es k)).2) := Lib.hid (fun k hk => by
          have hmem : es.getD k default ∈ befP l2 fs ts S := by rw [HES.out]; exact getD_mem (by rw [HMS.out]; exact hk)
          obtain ⟨h1, h2, h3⟩ := mem_befP.1 hmem
          have h4 := HMU.out _ _ h1 h2 h3
          rw [HNS.out] at h1 h2
          exact ⟨h1, h2, h4.1, h4.2⟩)
        have HK2 : Hid (∀ k, k < N → 1 ≤ (sAt S k).2 ∧ (sAt S k).2 ≤ 3) := Lib.hid (fun k hk => by
          have hm := sAt_mem (S := S) (k := k) (by rw [HNS.out]; exact hk)
          have hm2 : sAt S k ∈ stK l2 fs ts fs.length := by rw [← HSS.out] at hm ⊢; exact hm
          have := stK_at hm2
          exact ⟨this.1, this.2.1⟩)
        have HL48 : Hid (N ≤ 96) := Lib.hid (by rw [← HNS.out, ← HSS.out]; have := stK_len l2 fs ts fs.length; have : fs.length = m := HF.out.len; unfold stL; omega)
        obtain ⟨P, HP1⟩ : ∃ P, Hid (P = T.alloc (.cells #[.slice AF mm cF, .slice AT mm cT, .slice AS N cS, .slice AE M cE] 35)) := ⟨_, Lib.hid rfl⟩
        have HTP : Hid (Below T.heap.size T P) := Lib.hid (by rw [HP1.out]; exact (Below.refl _ T).alloc (Nat.le_refl _) _)
        have KP : Hid (P.heap[T.heap.size]? = some (.cells #[.slice AF mm cF, .slice AT mm cT, .slice AS N cS, .slice AE M cE] 35 (0, 0))) := Lib.hid (by rw [HP1.out]; exact heap_new T _)
        have HBP : Hid (Below w.heap.size w P) := Lib.hid (HBT.out.trans (HTP.out.mono HBT.out.size))
        have HRS := Lib.hid (o3.kept HTP.out).rdS
        have HRE := Lib.hid (OwnF.edg (o4.kept HTP.out))
        obtain ⟨hP, HhP⟩ : ∃ q, Hid (T.heap.size = q) := ⟨_, Lib.hid rfl⟩
        rw [HhP.out] at KP
        clear hp o3 o4 hlf hlt HMU
        obtain ⟨y0, y1, y2, y3⟩ := row4 KP.out
        rw [← HhP.out, HP1.out] at y0 y1 y2 y3
        go_wp2_with fail
        rw [← HP1.out]
        clear y0 y1 y2 y3
        rw [HhP.out]
        go_loopw [14, 16, 87] (fun tv _ v wr => ∃ k : Nat, k ≤ N ∧ v = .int .i64 (k : Int) ∧ tv = .int .i64 (((S.take k).countP (fun x => x.2 == 1) : Nat) : Int) ∧ Hid (Below P.heap.size P wr)) (fun _ _ v _ => N - (intOf v).toNat)
        case atStart => exact ⟨0, Nat.zero_le _, rfl, rfl, Lib.hid (Below.refl _ _)⟩
        case round =>
          obtain ⟨wo, hwo⟩ : ∃ x, x = wr := ⟨_, rfl⟩
          subst hwo
          obtain ⟨k, hk, rfl, rfl, HBo⟩ := hrel
          by_cases hkn : k < N
          · have hd : decide ((k : Int) < (N : Int)) = true := by simp; omega
            have hki : (k : Int) < (N : Int) := by omega
            have hk0 : (0 : Int) ≤ (k : Int) := by omega
            have hadd : IntKind.i64.wrap ((k : Int) + 1) = ((k + 1 : Nat) : Int) := by rw [IntWalk.i64_in _ (by have := HL48.out; omega)]; omega
            obtain ⟨b, off, rfl, hlt, s0, s1⟩ := (HRS.out.below HBo.out (Nat.le_refl _)).at_ k hkn
            obtain ⟨a1, a2, HQ⟩ : ∃ q1 q2, Hid (sAt S k = (q1, q2)) := ⟨_, _, Lib.hid rfl⟩
            rw [HQ.out] at s0 s1
            have HTK := Lib.hid (take_snocB (show k < S.length by rw [HNS.out]; exact hkn))
            obtain ⟨C, HCV⟩ : ∃ q, Hid ((S.take k).countP (fun x => x.2 == 1) = q) := ⟨_, Lib.hid rfl⟩
            have HC48 : Hid (C ≤ 96) := Lib.hid (by
              rw [← HCV.out]
              have h1 := List.countP_le_length (p := fun x : StP => x.2 == 1) (l := S.take k)
              rw [List.length_take] at h1
              have := HL48.out
              omega)
            have hC : IntKind.i64.wrap ((C : Int) + 1) = (C : Int) + 1 := IntWalk.i64_in _ (by have := HC48.out; omega)
            rw [HCV.out]
            obtain ⟨wp, HWP⟩ : ∃ wp, Hid (wp = wo.alloc (.cells #[.int .i64 a1, .int .i64 a2] 64)) := ⟨_, Lib.hid rfl⟩
            have HBP2 : Hid (Below P.heap.size P wp) := Lib.hid (by rw [HWP.out]; exact HBo.out.alloc HBo.out.size _)
            have KW : Hid (wp.heap[wo.heap.size]? = some (.cells #[.int .i64 a1, .int .i64 a2] 64 (0, 0))) := Lib.hid (by rw [HWP.out]; exact heap_new wo _)
            obtain ⟨p0, p1, _, _⟩ := row2 KW.out
            rw [HWP.out] at p0 p1 HBP2
            by_cases h1 : a2 = 1
            · have HN1 : Hid ((S.take (k + 1)).countP (fun x => x.2 == 1) = C + 1) := Lib.hid (by rw [HTK.out, List.countP_append, HCV.out, HQ.out]; subst h1; rfl)
              subst h1
              go_wp2_with fail
              go_roundw
              case rel => exact ⟨k + 1, by omega, by go_num, by rw [HN1.out]; go_num, HBP2⟩
              case measure => simp [intOf]; omega
            · have e1 : (a2 == 1) = false := by rw [beq_eq_false_iff_ne]; exact h1
              have HN1 : Hid ((S.take (k + 1)).countP (fun x => x.2 == 1) = C) := Lib.hid (by rw [HTK.out, List.countP_append, HCV.out, HQ.out]; simp [h1])
              clear h1
              go_wp2_with fail
              go_roundw
              case rel => exact ⟨k + 1, by omega, by go_num, by rw [HN1.out], HBP2⟩
              case measure => simp [intOf]; omega
          · have hd : decide ((k : Int) < (N : Int)) = false := by simp; omega
            obtain rfl : k = N := by omega
            obtain ⟨C, HCV⟩ : ∃ q, Hid ((S.take k).countP (fun x => x.2 == 1) = q) := ⟨_, Lib.hid rfl⟩
            have HM2 : Hid ((M : Int) = 2 * (C : Int)) := Lib.hid (by
              have h1 := HBL.out
              rw [HMS.out] at h1
              have h2 := HCV.out
              rw [← HNS.out, List.take_length] at h2
              rw [h2] at h1
              omega)
            rw [HCV.out]
            have HC48 : Hid (C ≤ 96) := Lib.hid (by
              rw [← HCV.out]
              have h1 := List.countP_le_length (p := fun x : StP => x.2 == 1) (l := S.take k)
              rw [List.length_take] at h1
              have := HL48.out
              omega)
            have KPo : Hid (wo.heap[hP]? = _) := Lib.hid ((HBo.out.block hP (heapE_lt KP.out)).trans KP.out)
            obtain ⟨y0, y1, y2, y3⟩ := row4 KPo.out
            go_wp2_with fail
            clear y0 y1 y2 y3
            go_loopw [18, 19, 20, 100] (fun _ _ _ v wr => ∃ i : Nat, i ≤ M ∧ v = .int .i64 (i : Int) ∧ Hid (Below wo.heap.size wo wr)) (fun _ _ _ v _ => M - (intOf v).toNat)
            case atStart => exact ⟨0, Nat.zero_le _, rfl, Lib.hid (Below.refl _ _)⟩
            case round =>
              obtain ⟨wi, hwi⟩ : ∃ x, x = wr := ⟨_, rfl⟩
              subst hwi
              obtain ⟨i, hi, rfl, HBi⟩ := hrel
              have HBPi : Hid (Below P.heap.size P wi) := Lib.hid (HBo.out.trans (HBi.out.mono HBo.out.size))
              have HWi : Hid (Below w.heap.size w wi) := Lib.hid (HBP.out.trans (HBPi.out.mono HBP.out.size))
              have KPi : Hid (wi.heap[hP]? = _) := Lib.hid ((HBPi.out.block hP (heapE_lt KP.out)).trans KP.out)
              by_cases him : i < M
              · have hd2 : decide ((i : Int) < (M : Int)) = true := by simp; omega
                have hii : (i : Int) < (M : Int) := by omega
                have hi0 : (0 : Int) ≤ (i : Int) := by omega
                have hadd : IntKind.i64.wrap ((i : Int) + 1) = ((i + 1 : Nat) : Int) := by rw [IntWalk.i64_in _ (by have := HM2.out; have := HC48.out; omega)]; omega
                obtain ⟨bE, oE, rfl, hltE, s0, s1⟩ := (HRE.out.below HBPi.out).at_ him
                obtain ⟨m1, m2, m3', m4⟩ := HMEM.out i him
                obtain ⟨u, HU⟩ : ∃ q, Hid (fa es i = q) := ⟨_, Lib.hid rfl⟩
                obtain ⟨x, HX⟩ : ∃ q, Hid (fb es i = q) := ⟨_, Lib.hid rfl⟩
                rw [HU.out] at s0 m1 m3' m4
                rw [HX.out] at s1 m2 m3' m4
                obtain ⟨X, HXW⟩ : ∃ X, Hid (X = wi.alloc (.cells #[.int .i64 (u : Int), .int .i64 (x : Int)] 91)) := ⟨_, Lib.hid rfl⟩
                have HBX : Hid (Below wi.heap.size wi X) := Lib.hid (by rw [HXW.out]; exact (Below.refl _ wi).alloc (Nat.le_refl _) _)
                have KEX : Hid (X.heap[wi.heap.size]? = some (.cells #[.int .i64 (u : Int), .int .i64 (x : Int)] 91 (0, 0))) := Lib.hid (by rw [HXW.out]; exact heap_new wi _)
                have KPX : Hid (X.heap[hP]? = _) := Lib.hid ((HBX.out.block hP (heapE_lt KPi.out)).trans KPi.out)
                have HBPX : Hid (Below P.heap.size P X) := Lib.hid (HBPi.out.trans (HBX.out.mono HBPi.out.size))
                have hrsX := HRS.out.below HBPX.out (Nat.le_refl _)
                obtain ⟨bS, oS, hAS, hltS, t0, t1⟩ := hrsX.at_ u m1
                obtain ⟨bS', oS', hAS', _, r0, r1⟩ := hrsX.at_ x m2
                subst hAS
                injection hAS' with hAS'
                injection hAS' with q1 q2 _
                subst q1 q2
                obtain ⟨a1, a2, HQ⟩ : ∃ q1 q2, Hid (sAt S u = (q1, q2)) := ⟨_, _, Lib.hid rfl⟩
                obtain ⟨c1', c2', HQ2⟩ : ∃ q1 q2, Hid (sAt S x = (q1, q2)) := ⟨_, _, Lib.hid rfl⟩
                have hk2 := HK2.out u m1
                rw [HQ.out] at t0 t1 m3' m4 hk2
                rw [HQ2.out] at r0 r1 m3' m4
                have m3' : a1 = c1' := m3'
                have m4 : a2 + 1 = c2' := m4
                have hk2 : 1 ≤ a2 ∧ a2 ≤ 3 := hk2
                subst m3' m4
                have HSU := Lib.hid (And.intro t0 t1)
                have HSX := Lib.hid (And.intro r0 r1)
                have HU0 : Hid ((0 : Int) ≤ (u : Int)) := Lib.hid (by omega)
                have HU1 : Hid ((u : Int) < (k : Int)) := Lib.hid (by omega)
                have HX0 : Hid ((0 : Int) ≤ (x : Int)) := Lib.hid (by omega)
                have HX1 : Hid ((x : Int) < (k : Int)) := Lib.hid (by omega)
                have HBSX : Hid (bS < X.heap.size) := Lib.hid (Nat.lt_of_lt_of_le hltS HBPX.out.size)
                have hw2 : IntKind.i64.wrap (a2 + 1) = a2 + 1 := IntWalk.i64_in _ (by omega)
                clear t0 t1 r0 r1 hltS hltE hrsX hk2 m1 m2
                go_wp2_with fail
                rw [← HXW.out]
                obtain ⟨gE, HgE⟩ : ∃ q, Hid (wi.heap.size = q) := ⟨_, Lib.hid rfl⟩
                rw [HgE.out]
                rw [HgE.out] at KEX
                have HW2 := Lib.hid hw2
                clear s0 s1 hw2
                refine wp_region_inv (by kernel_rfl) (I := BxJ X hP gE bS oS k cS u x a1 a2 a1 (a2 + 1) _ _ _ _ _ _ _ _ _ _ _ _ _ _ _ _ _ _ _ _ _ _ _ _ _ _ _ _ _ _ _ _ _ _ _ _ _ _ _ _ _ _ _ _ _ _ _ _ _ _ _ _ _ _ _ _ _ _ _ _ _ _ _ _ _ _ _ _ _ _ _ _ _ _ _ _ _ _ _ _ _ _ _ _ _ _ _ _ _ _ _ _ _ _ _ _ _ _ _ _ _ _ _ _ _ _ _ _ _ _ _ _ _ _ _ _ _ _ _ _ _ _) (.mk false false false false false false false false false false false false false false false false _ _ _ _ _ _ _ _ _ _ _ _ _ _ _ ⟨(Below.refl _ X).drew, nofun, nofun, nofun, nofun, nofun, nofun, nofun, nofun, nofun, nofun, nofun, nofun, nofun, nofun, nofun, nofun, nofun, nofun, nofun, nofun, nofun, nofun, nofun, nofun, nofun, nofun, nofun, nofun, nofun, nofun⟩) ?step ?fin
                case step =>
                  rintro lq a' w' ix0 ⟨b0, b1, b2, b3, b4, b5, b6, b7, b8, b9, b10, b11, b12, b13, b14, b15, v19, v20, v104, v105, v106, v107, v108, v109, v110, v111, v112, v113, v114, v115, _, HT⟩ hi
                  obtain ⟨hi_, hib⟩ := ready_lt hi
                  have HTH := Lib.hid HT
                  match ix0, hi_, hi, hib with
                  | 0, _, hi, hib =>
                    obtain rfl : b0 = false := by simpa using hib
                    clear HT
                    refine wpOp_one rfl rfl (fun K hK => ?_)
                    go_simp
                    exact hK.out _ _ (.mk true b1 b2 b3 b4 b5 b6 b7 b8 b9 b10 b11 b12 b13 b14 b15 _ _ _ _ _ _ _ _ _ _ _ _ _ _ _ { HTH.out with h0 := fun _ => rfl, o1_0 := fun _ => rfl })
                  | 1, _, hi, hib =>
                    obtain rfl : b1 = false := by simpa using hib
                    have d0 : b0 = true := ready_dep hi rfl 0 (by kernel_rfl)
                    have hd0 := HT.h0 d0
                    subst hd0
                    have HTb := Lib.hid HT.bel
                    obtain ⟨_, _, y2, _⟩ := row4 ((HTb.out.block hP (heapE_lt KPX.out)).trans KPX.out)
                    clear HT
                    refine wpOp_one rfl rfl (fun K hK => ?_)
                    go_simp
                    exact hK.out _ _ (.mk b0 true b2 b3 b4 b5 b6 b7 b8 b9 b10 b11 b12 b13 b14 b15 _ _ _ _ _ _ _ _ _ _ _ _ _ _ _ { HTH.out with h1 := fun _ => rfl, o1_0 := fun _ => d0, o4_1 := fun _ => rfl })
                  | 2, _, hi, hib =>
                    obtain rfl : b2 = false := by simpa using hib
                    clear HT
                    refine wpOp_one rfl rfl (fun K hK => ?_)
                    go_simp
                    exact hK.out _ _ (.mk b0 b1 true b3 b4 b5 b6 b7 b8 b9 b10 b11 b12 b13 b14 b15 _ _ _ _ _ _ _ _ _ _ _ _ _ _ _ { HTH.out with h2 := fun _ => rfl, o3_2 := fun _ => rfl })
                  | 3, _, hi, hib =>
                    obtain rfl : b3 = false := by simpa using hib
                    have d2 : b2 = true := ready_dep hi rfl 2 (by kernel_rfl)
                    have hd2 := HT.h2 d2
                    subst hd2
                    have HTb := Lib.hid HT.bel
                    obtain ⟨q0, q1, _, _⟩ := row2 ((HTb.out.block gE (heapE_lt KEX.out)).trans KEX.out)
                    clear HT
                    refine wpOp_one rfl rfl (fun K hK => ?_)
                    go_simp
                    exact hK.out _ _ (.mk b0 b1 b2 true b4 b5 b6 b7 b8 b9 b10 b11 b12 b13 b14 b15 _ _ _ _ _ _ _ _ _ _ _ _ _ _ _ { HTH.out with h3 := fun _ => rfl, o3_2 := fun _ => d2, o4_3 := fun _ => rfl })
                  | 4, _, hi, hib =>
                    obtain rfl : b4 = false := by simpa using hib
                    have d1 : b1 = true := ready_dep hi rfl 1 (by kernel_rfl)
                    have d3 : b3 = true := ready_dep hi rfl 3 (by kernel_rfl)
                    have hd1 := HT.h1 d1
                    subst hd1
                    have hd3 := HT.h3 d3
                    subst hd3
                    have hh0 := HU0.out
                    have hh1 := HU1.out
                    clear HT
                    refine wpOp_one rfl rfl (fun K hK => ?_)
                    go_simp
                    exact hK.out _ _ (.mk b0 b1 b2 b3 true b5 b6 b7 b8 b9 b10 b11 b12 b13 b14 b15 _ _ _ _ _ _ _ _ _ _ _ _ _ _ _ { HTH.out with h4 := fun _ => rfl, o4_1 := fun _ => d1, o4_3 := fun _ => d3, o5_4 := fun _ => rfl })
                  | 5, _, hi, hib =>
                    obtain rfl : b5 = false := by simpa using hib
                    have d4 : b4 = true := ready_dep hi rfl 4 (by kernel_rfl)
                    have hd4 := HT.h4 d4
                    subst hd4
                    have HTb := Lib.hid HT.bel
                    have s0 := (HTb.out.cell (p := ⟨bS, oS + u * 2, none⟩) HBSX.out).trans HSU.out.1
                    have s1 := (HTb.out.cell (p := ⟨bS, oS + u * 2 + 1, none⟩) HBSX.out).trans HSU.out.2
                    clear HT
                    refine wpOp_one rfl rfl (fun K hK => ?_)
                    go_simp
                    exact hK.out _ _ (.mk b0 b1 b2 b3 b4 true b6 b7 b8 b9 b10 b11 b12 b13 b14 b15 _ _ _ _ _ _ _ _ _ _ _ _ _ _ _ { HTH.out with h5 := fun _ => rfl, o5_4 := fun _ => d4, o14_5 := fun _ => rfl })
                  | 6, _, hi, hib =>
                    obtain rfl : b6 = false := by simpa using hib
                    clear HT
                    refine wpOp_one rfl rfl (fun K hK => ?_)
                    go_simp
                    exact hK.out _ _ (.mk b0 b1 b2 b3 b4 b5 true b7 b8 b9 b10 b11 b12 b13 b14 b15 _ _ _ _ _ _ _ _ _ _ _ _ _ _ _ { HTH.out with h6 := fun _ => rfl, o7_6 := fun _ => rfl })
                  | 7, _, hi, hib =>
                    obtain rfl : b7 = false := by simpa using hib
                    have d6 : b6 = true := ready_dep hi rfl 6 (by kernel_rfl)
                    have hd6 := HT.h6 d6
                    subst hd6
                    have HTb := Lib.hid HT.bel
                    obtain ⟨_, _, y2, _⟩ := row4 ((HTb.out.block hP (heapE_lt KPX.out)).trans KPX.out)
                    clear HT
                    refine wpOp_one rfl rfl (fun K hK => ?_)
                    go_simp
                    exact hK.out _ _ (.mk b0 b1 b2 b3 b4 b5 b6 true b8 b9 b10 b11 b12 b13 b14 b15 _ _ _ _ _ _ _ _ _ _ _ _ _ _ _ { HTH.out with h7 := fun _ => rfl, o7_6 := fun _ => d6, o10_7 := fun _ => rfl })
                  | 8, _, hi, hib =>
                    obtain rfl : b8 = false := by simpa using hib
                    clear HT
                    refine wpOp_one rfl rfl (fun K hK => ?_)
                    go_simp
                    exact hK.out _ _ (.mk b0 b1 b2 b3 b4 b5 b6 b7 true b9 b10 b11 b12 b13 b14 b15 _ _ _ _ _ _ _ _ _ _ _ _ _ _ _ { HTH.out with h8 := fun _ => rfl, o9_8 := fun _ => rfl })
                  | 9, _, hi, hib =>
                    obtain rfl : b9 = false := by simpa using hib
                    have d8 : b8 = true := ready_dep hi rfl 8 (by kernel_rfl)
                    have hd8 := HT.h8 d8
                    subst hd8
                    have HTb := Lib.hid HT.bel
                    obtain ⟨q0, q1, _, _⟩ := row2 ((HTb.out.block gE (heapE_lt KEX.out)).trans KEX.out)
                    clear HT
                    refine wpOp_one rfl rfl (fun K hK => ?_)
                    go_simp
                    exact hK.out _ _ (.mk b0 b1 b2 b3 b4 b5 b6 b7 b8 true b10 b11 b12 b13 b14 b15 _ _ _ _ _ _ _ _ _ _ _ _ _ _ _ { HTH.out with h9 := fun _ => rfl, o9_8 := fun _ => d8, o10_9 := fun _ => rfl })
                  | 10, _, hi, hib =>
                    obtain rfl : b10 = false := by simpa using hib
                    have d7 : b7 = true := ready_dep hi rfl 7 (by kernel_rfl)
                    have d9 : b9 = true := ready_dep hi rfl 9 (by kernel_rfl)
                    have hd7 := HT.h7 d7
                    subst hd7
                    have hd9 := HT.h9 d9
                    subst hd9
                    have hh0 := HX0.out
                    have hh1 := HX1.out
                    clear HT
                    refine wpOp_one rfl rfl (fun K hK => ?_)
                    go_simp
                    exact hK.out _ _ (.mk b0 b1 b2 b3 b4 b5 b6 b7 b8 b9 true b11 b12 b13 b14 b15 _ _ _ _ _ _ _ _ _ _ _ _ _ _ _ { HTH.out with h10 := fun _ => rfl, o10_7 := fun _ => d7, o10_9 := fun _ => d9, o11_10 := fun _ => rfl })
                  | 11, _, hi, hib =>
                    obtain rfl : b11 = false := by simpa using hib
                    have d10 : b10 = true := ready_dep hi rfl 10 (by kernel_rfl)
                    have hd10 := HT.h10 d10
                    subst hd10
                    have HTb := Lib.hid HT.bel
                    have s0 := (HTb.out.cell (p := ⟨bS, oS + x * 2, none⟩) HBSX.out).trans HSX.out.1
                    have s1 := (HTb.out.cell (p := ⟨bS, oS + x * 2 + 1, none⟩) HBSX.out).trans HSX.out.2
                    clear HT
                    refine wpOp_one rfl rfl (fun K hK => ?_)
                    go_simp
                    exact hK.out _ _ (.mk b0 b1 b2 b3 b4 b5 b6 b7 b8 b9 b10 true b12 b13 b14 b15 _ _ _ _ _ _ _ _ _ _ _ _ _ _ _ { HTH.out with h11 := fun _ => rfl, o11_10 := fun _ => d10, o15_11 := fun _ => rfl })
                  | 12, _, hi, hib =>
                    obtain rfl : b12 = false := by simpa using hib
                    obtain rfl : b14 = false := by
                      cases hbl : b14 with
                      | false => rfl
                      | true => have h := (HT.o14_12 hbl); cases h
                    obtain rfl : b15 = false := by
                      cases hbl : b15 with
                      | false => rfl
                      | true => have h := (HT.o14_12 (HT.o15_14 hbl)); cases h
                    have HTb := Lib.hid HT.bel
                    clear HT
                    refine wpOp_one rfl rfl (fun K hK => ?_)
                    go_simp
                    have hba : Below w'.heap.size w' (w'.alloc (.cells #[.int .i64 0, .int .i64 0] 64)) := (Below.refl _ w').alloc (Nat.le_refl _) _
                    exact hK.out _ _ (.mk b0 b1 b2 b3 b4 b5 b6 b7 b8 b9 b10 b11 true b13 false false _ _ _ _ _ _ _ _ _ _ _ _ _ _ _ { HTH.out with bel := HTb.out.trans (hba.mono HTb.out.size), z12 := fun _ => ⟨w'.heap.size, rfl, HTb.out.size, heap_new w' _⟩, z13 := fun h => (by obtain ⟨g, e, hg, hh⟩ := HTH.out.z13 h; exact ⟨g, e, hg, (hba.block g (heapE_lt hh)).trans hh⟩), hd := fun _ h e => (by obtain ⟨g, e2, hg, hh⟩ := HTH.out.z13 h; rw [e2] at e; injection e with e; injection e with e; injection e with e _; have := heapE_lt hh; omega), o14_12 := fun _ => rfl })
                  | 13, _, hi, hib =>
                    obtain rfl : b13 = false := by simpa using hib
                    obtain rfl : b15 = false := by
                      cases hbl : b15 with
                      | false => rfl
                      | true => have h := (HT.o15_13 hbl); cases h
                    have HTb := Lib.hid HT.bel
                    clear HT
                    refine wpOp_one rfl rfl (fun K hK => ?_)
                    go_simp
                    have hba : Below w'.heap.size w' (w'.alloc (.cells #[.int .i64 0, .int .i64 0] 64)) := (Below.refl _ w').alloc (Nat.le_refl _) _
                    exact hK.out _ _ (.mk b0 b1 b2 b3 b4 b5 b6 b7 b8 b9 b10 b11 b12 true b14 false _ _ _ _ _ _ _ _ _ _ _ _ _ _ _ { HTH.out with bel := HTb.out.trans (hba.mono HTb.out.size), z13 := fun _ => ⟨w'.heap.size, rfl, HTb.out.size, heap_new w' _⟩, z12 := fun h => (by obtain ⟨g, e, hg, hh⟩ := HTH.out.z12 h; exact ⟨g, e, hg, (hba.block g (heapE_lt hh)).trans hh⟩), hd := fun h _ e => (by obtain ⟨g, e2, hg, hh⟩ := HTH.out.z12 h; rw [e2] at e; injection e with e; injection e with e; injection e with e _; have := heapE_lt hh; omega), o15_13 := fun _ => rfl })
                  | 14, _, hi, hib =>
                    obtain rfl : b14 = false := by simpa using hib
                    have d12 : b12 = true := ready_dep hi rfl 12 (by kernel_rfl)
                    have d5 : b5 = true := ready_dep hi rfl 5 (by kernel_rfl)
                    have hd5 := HT.h5 d5
                    subst hd5
                    obtain rfl : b15 = false := by
                      cases hbl : b15 with
                      | false => rfl
                      | true => have h := (HT.o15_14 hbl); cases h
                    obtain ⟨g, e1, hg, hh⟩ := HT.z12 d12
                    subst e1
                    have HTb := Lib.hid HT.bel
                    obtain ⟨q0, q1, f0, f1⟩ := row2 hh
                    have HH := Lib.hid hh
                    have HG := Lib.hid hg
                    clear HT hh hg
                    refine wpOp_one rfl rfl (fun K hK => ?_)
                    go_simp
                    exact hK.out _ _ (.mk b0 b1 b2 b3 b4 b5 b6 b7 b8 b9 b10 b11 b12 b13 true false _ _ _ _ _ _ _ _ _ _ _ _ _ _ _ { HTH.out with bel := (HTb.out.setCell (p := ⟨g, 0, none⟩) HG.out _).setCell (p := ⟨g, 1, none⟩) HG.out _, z12 := fun _ => ⟨g, rfl, HG.out, set2_same HH.out⟩, z13 := fun h => (by obtain ⟨k, e, hk, hh⟩ := HTH.out.z13 h; exact ⟨k, e, hk, (set2_other (fun e3 => (HTH.out.hd d12 h) (by rw [e, e3]))).trans hh⟩), o14_12 := fun _ => d12, o14_5 := fun _ => d5, o15_14 := fun _ => rfl })
                  | 15, _, hi, hib =>
                    obtain rfl : b15 = false := by simpa using hib
                    have d13 : b13 = true := ready_dep hi rfl 13 (by kernel_rfl)
                    have d11 : b11 = true := ready_dep hi rfl 11 (by kernel_rfl)
                    have d14 : b14 = true := ready_dep hi rfl 14 (by kernel_rfl)
                    have hd11 := HT.h11 d11
                    subst hd11
                    obtain ⟨g, e1, hg, hh⟩ := HT.z13 d13
                    subst e1
                    have HTb := Lib.hid HT.bel
                    obtain ⟨q0, q1, f0, f1⟩ := row2 hh
                    have HH := Lib.hid hh
                    have HG := Lib.hid hg
                    clear HT hh hg
                    refine wpOp_one rfl rfl (fun K hK => ?_)
                    go_simp
                    exact hK.out _ _ (.mk b0 b1 b2 b3 b4 b5 b6 b7 b8 b9 b10 b11 b12 b13 b14 true _ _ _ _ _ _ _ _ _ _ _ _ _ _ _ { HTH.out with bel := (HTb.out.setCell (p := ⟨g, 0, none⟩) HG.out _).setCell (p := ⟨g, 1, none⟩) HG.out _, z13 := fun _ => ⟨g, rfl, HG.out, set2_same HH.out⟩, z12 := fun h => (by obtain ⟨k, e, hk, hh⟩ := HTH.out.z12 h; exact ⟨k, e, hk, (set2_other (fun e3 => (HTH.out.hd h d13) (by rw [e, e3]))).trans hh⟩), o15_13 := fun _ => d13, o15_11 := fun _ => d11, o15_14 := fun _ => d14 })
                case fin =>
                  rintro lq a' w' ⟨b0, b1, b2, b3, b4, b5, b6, b7, b8, b9, b10, b11, b12, b13, b14, b15, v19, v20, v104, v105, v106, v107, v108, v109, v110, v111, v112, v113, v114, v115, _, HT⟩ hr
                  obtain rfl : b0 = true := by
                    cases b0 with
                    | true => rfl
                    | false => exact (ready_in 0 rfl rfl (by simp [Region.binds]) hr).elim
                  obtain rfl : b1 = true := by
                    cases b1 with
                    | true => rfl
                    | false => exact (ready_in 1 rfl rfl (by simp [Region.binds]) hr).elim
                  obtain rfl : b2 = true := by
                    cases b2 with
                    | true => rfl
                    | false => exact (ready_in 2 rfl rfl (by simp [Region.binds]) hr).elim
                  obtain rfl : b3 = true := by
                    cases b3 with
                    | true => rfl
                    | false => exact (ready_in 3 rfl rfl (by simp [Region.binds]) hr).elim
                  obtain rfl : b4 = true := by
                    cases b4 with
                    | true => rfl
                    | false => exact (ready_in 4 rfl rfl (by simp [Region.binds]) hr).elim
                  obtain rfl : b5 = true := by
                    cases b5 with
                    | true => rfl
                    | false => exact (ready_in 5 rfl rfl (by simp [Region.binds]) hr).elim
                  obtain rfl : b6 = true := by
                    cases b6 with
                    | true => rfl
                    | false => exact (ready_in 6 rfl rfl (by simp [Region.binds]) hr).elim
                  obtain rfl : b7 = true := by
                    cases b7 with
                    | true => rfl
                    | false => exact (ready_in 7 rfl rfl (by simp [Region.binds]) hr).elim
                  obtain rfl : b8 = true := by
                    cases b8 with
                    | true => rfl
                    | false => exact (ready_in 8 rfl rfl (by simp [Region.binds]) hr).elim
                  obtain rfl : b9 = true := by
                    cases b9 with
                    | true => rfl
                    | false => exact (ready_in 9 rfl rfl (by simp [Region.binds]) hr).elim
                  obtain rfl : b10 = true := by
                    cases b10 with
                    | true => rfl
                    | false => exact (ready_in 10 rfl rfl (by simp [Region.binds]) hr).elim
                  obtain rfl : b11 = true := by
                    cases b11 with
                    | true => rfl
                    | false => exact (ready_in 11 rfl rfl (by simp [Region.binds]) hr).elim
                  obtain rfl : b12 = true := by
                    cases b12 with
                    | true => rfl
                    | false => exact (ready_in 12 rfl rfl (by simp [Region.binds]) hr).elim
                  obtain rfl : b13 = true := by
                    cases b13 with
                    | true => rfl
                    | false => exact (ready_in 13 rfl rfl (by simp [Region.binds]) hr).elim
                  obtain rfl : b14 = true := by
                    cases b14 with
                    | true => rfl
                    | false => exact (ready_in 14 rfl rfl (by simp [Region.binds]) hr).elim
                  obtain rfl : b15 = true := by
                    cases b15 with
                    | true => rfl
                    | false => exact (ready_in 15 rfl rfl (by simp [Region.binds]) hr).elim
                  obtain ⟨gA, eA, hgA, hA⟩ := HT.z12 rfl
                  obtain ⟨gB, eB, hgB, hB⟩ := HT.z13 rfl
                  subst eA eB
                  have k0 := HT.h0 rfl
                  subst k0
                  have k1 := HT.h1 rfl
                  subst k1
                  have k2 := HT.h2 rfl
                  subst k2
                  have k3 := HT.h3 rfl
                  subst k3
                  have k4 := HT.h4 rfl
                  subst k4
                  have k5 := HT.h5 rfl
                  subst k5
                  have k6 := HT.h6 rfl
                  subst k6
                  have k7 := HT.h7 rfl
                  subst k7
                  have k8 := HT.h8 rfl
                  subst k8
                  have k9 := HT.h9 rfl
                  subst k9
                  have k10 := HT.h10 rfl
                  subst k10
                  have k11 := HT.h11 rfl
                  subst k11
                  have HBY := Lib.hid HT.bel
                  have HAx := Lib.hid hA
                  have HBx := Lib.hid hB
                  clear HT hr hA hB hgA hgB
                  have HBY2 : Hid (Below wi.heap.size wi w') := Lib.hid (HBX.out.trans (HBY.out.mono HBX.out.size))
                  obtain ⟨q0, q1, _, _⟩ := row2 HAx.out
                  obtain ⟨r0, r1, _, _⟩ := row2 HBx.out
                  have hw2 : IntKind.i64.wrap (a2 + 1) = a2 + 1 := HW2.out
                  go_wp2_with fail
                  go_roundw
                  case rel => exact ⟨i + 1, by omega, by go_num, Lib.hid (HBi.out.trans (HBY2.out.mono HBi.out.size))⟩
                  case measure => simp [intOf]; omega
              · have hd2 : decide ((i : Int) < (M : Int)) = false := by simp; omega
                obtain ⟨y0, y1, y2, y3⟩ := row4 KPi.out
                have hmul : IntKind.i64.wrap (2 * (C : Int)) = 2 * (C : Int) := IntWalk.i64_in _ (by have := HC48.out; omega)
                have hee : ((M : Int) == 2 * (C : Int)) = true := by rw [beq_iff_eq]; exact HM2.out
                go_wp2_with fail
                exact bodyPost_ret (results_tmp rfl _ _ _) rfl ⟨rfl, HWi.out⟩
end Go.Proofs.YtminihiecloglaaGreat
