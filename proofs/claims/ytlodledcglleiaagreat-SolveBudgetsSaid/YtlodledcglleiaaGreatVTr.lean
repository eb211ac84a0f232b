/-
  THE DOCUMENT'S Tries: the plain search that calls itself.
-/
import Derived.Test.YtlodledcglleiaaGreatVFi
import Derived.Test.YtlodledcglleiaaGreatVPz
import Derived.Test.YtlodledcglleiaaGreatInv
namespace Go.Proofs.YtlodledcglleiaaGreat
open Go.RowKit
open SemP DiP FlP GaP SeaP
set_option linter.unusedVariables false
set_option linter.unusedSimpArgs false
set_option maxRecDepth 10000
theorem nodes_pow : ∀ os : List (List Int), (∀ o ∈ os, o.length ≤ 12) → nodes os + 1 ≤ 13 ^ os.length
  | [], _ => by decide
  | o :: os, h => by
    have ih := nodes_pow os (fun o' ho => h o' (by simp [ho]))
    have ho := h o (by simp)
    show o.length * (1 + nodes os) + 1 ≤ 13 ^ (os.length + 1)
    rw [Nat.pow_succ]
    have h1 : o.length * (1 + nodes os) ≤ 12 * (1 + nodes os) := Nat.mul_le_mul_right _ ho
    omega
theorem nodes_big {os : List (List Int)} (h : ∀ o ∈ os, o.length ≤ 12) (h16 : os.length ≤ 16) : nodes os ≤ 1000000000000000000 := by
  have h1 := nodes_pow os h
  have h2 : 13 ^ os.length ≤ 13 ^ 16 := Nat.pow_le_pow_right (by omega) h16
  have h3 : 13 ^ 16 ≤ 1000000000000000000 := by decide
  omega
structure TrSt (X : World) (base : Nat) (V : Value) (ch : List Int) (A A2 Aq Am : Option Addr) (n c c2 np cp cm nj cO q bo oo : Nat) (v M : Int) (S : Bool) (b0 b1 b2 b3 b4 b5 b6 b7 b8 b9 b10 b11 b12 b13 b14 b15 : Bool) (v62 v63 v64 v65 v66 v67 v68 v69 v70 v71 v72 v61 v73 v74 v15 v16 : Value) (w' : World) : Prop where
  bel : Below base X w'
  h0 : b0 = true → v62 = .agg #[.slice A n c]
  h1 : b1 = true → v63 = .slice A2 n c2
  h2 : b2 = true → v64 = .agg #[.slice Aq np cp, .slice Am n cm]
  h3 : b3 = true → v65 = V
  h4 : b4 = true → v66 = .slice (some ⟨bo, oo, none⟩) nj cO
  h5 : b5 = true → v67 = .int .i64 (q : Int)
  h6 : b6 = true → v68 = .pointer (some ⟨bo, oo + q, none⟩)
  h7 : b7 = true → v69 = .int .i64 v
  h10 : b10 = true → v72 = .tuple #[.int .i64 M, .bool S]
  h11 : b11 = true → v61 = .tuple #[.int .i64 M, .bool S]
  h12 : b12 = true → v73 = .int .i64 M
  h13 : b13 = true → v74 = .bool S
  h14 : b14 = true → v15 = .int .i64 M
  h15 : b15 = true → v16 = .bool S
  ho : b9 = false → OwnJ 3 1 inI w' base V ch
  h8 : b8 = true → b9 = false → ∃ g, v70 = .slice (some ⟨g, 0, none⟩) 1 1 ∧ w'.heap[g]? = some (.cells #[.int .i64 v] 3 (0, 0)) ∧ X.heap.size ≤ g
  h9 : b9 = true → b10 = false → ∃ g9 c9, v71 = .slice (some ⟨g9, 0, none⟩) (ch.length + 1) c9 ∧ OwnJ 3 1 inI w' base (.slice (some ⟨g9, 0, none⟩) (ch.length + 1) c9) (ch ++ [v])
  o9 : b9 = true → b8 = true
  o10 : b10 = true → b9 = true
inductive TrJ (X : World) (base : Nat) (V : Value) (ch : List Int) (A A2 Aq Am : Option Addr) (n c c2 np cp cm nj cO q bo oo : Nat) (v M : Int) (S : Bool) (p0 p1 p2 p3 p4 p5 p6 p7 p8 p9 p10 p11 p12 p13 p14 p17 p18 p19 p20 p21 p22 p23 p24 p25 p26 p27 p28 p29 p30 p31 p32 p33 p34 p35 p36 p37 p38 p39 p40 p41 p42 p43 p44 p45 p46 p47 p48 p49 p50 p51 p52 p53 p54 p55 p56 p57 p58 p59 p60 p75 p76 p77 p78 p79 p80 : Value) : Array Bool → Act → World → Prop where
  | mk (b0 b1 b2 b3 b4 b5 b6 b7 b8 b9 b10 b11 b12 b13 b14 b15 : Bool) (v62 v63 v64 v65 v66 v67 v68 v69 v70 v71 v72 v61 v73 v74 v15 v16 : Value) (w' : World) : TrSt X base V ch A A2 Aq Am n c c2 np cp cm nj cO q bo oo v M S b0 b1 b2 b3 b4 b5 b6 b7 b8 b9 b10 b11 b12 b13 b14 b15 v62 v63 v64 v65 v66 v67 v68 v69 v70 v71 v72 v61 v73 v74 v15 v16 w' → TrJ X base V ch A A2 Aq Am n c c2 np cp cm nj cO q bo oo v M S p0 p1 p2 p3 p4 p5 p6 p7 p8 p9 p10 p11 p12 p13 p14 p17 p18 p19 p20 p21 p22 p23 p24 p25 p26 p27 p28 p29 p30 p31 p32 p33 p34 p35 p36 p37 p38 p39 p40 p41 p42 p43 p44 p45 p46 p47 p48 p49 p50 p51 p52 p53 p54 p55 p56 p57 p58 p59 p60 p75 p76 p77 p78 p79 p80 #[b0, b1, b2, b3, b4, b5, b6, b7, b8, b9, b10, b11, b12, b13, b14, b15] { tmps := List.toArray (p0 :: p1 :: p2 :: p3 :: p4 :: p5 :: p6 :: p7 :: p8 :: p9 :: p10 :: p11 :: p12 :: p13 :: p14 :: v15 :: v16 :: p17 :: p18 :: p19 :: p20 :: p21 :: p22 :: p23 :: p24 :: p25 :: p26 :: p27 :: p28 :: p29 :: p30 :: p31 :: p32 :: p33 :: p34 :: p35 :: p36 :: p37 :: p38 :: p39 :: p40 :: p41 :: p42 :: p43 :: p44 :: p45 :: p46 :: p47 :: p48 :: p49 :: p50 :: p51 :: p52 :: p53 :: p54 :: p55 :: p56 :: p57 :: p58 :: p59 :: p60 :: v61 :: v62 :: v63 :: v64 :: v65 :: v66 :: v67 :: v68 :: v69 :: v70 :: v71 :: v72 :: v73 :: v74 :: p75 :: p76 :: p77 :: p78 :: p79 :: p80 :: []), defers := [] } w'
theorem own_of_J {w : World} {base n : Nat} {v : Value} {xs : List Int} (h : OwnJ 3 1 inI w base v xs) (hn : xs.length = n) : Own w base v n xs := by
  subst hn
  obtain ⟨vals, ho, hj⟩ := h
  have e : vals = xs.map (Value.int .i64) := by
    apply List.ext_getElem?
    intro i
    by_cases hi : i < xs.length
    · obtain ⟨us, h1, h2, h3⟩ := hj i hi
      have e3 : us = [.int .i64 (xs.getD i default)] := h3
      subst e3
      have := h2 0 _ rfl
      rw [Nat.mul_one, Nat.add_zero] at this
      rw [this, List.getElem?_map]
      simp [List.getD, hi]
    · have hl := ho.1
      rw [List.getElem?_eq_none (by omega), List.getElem?_eq_none (by rw [List.length_map]; omega)]
  subst e
  exact ho
set_option maxHeartbeats 16000000 in
theorem tries_step {w : World} {B B2 B3 B4 n c c2 np cp cm k c4 : Nat} {A A2 Aq Am A4 : Option Addr} {l : List Sv} {vs ch ms : List Int} {ps : List Nd} (hs12 : ∀ s ∈ l, s.2.length ≤ 12) (hset : setB l vs = true) (hmod : modB ms = true) (hml : ms.length = l.length) (hk : k ≤ n)
    (ih : ∀ (w' : World) (B B2 B3 B4 c4 : Nat) (A4 : Option Addr) (ch : List Int), k < n → CatAt w' B A n c l → Rd w' B2 A2 n vs → B2 ≤ w'.heap.size → ReqAt w' B3 Aq np Am n ps ms → Rd w' B4 A4 (k + 1) ch → B4 ≤ w'.heap.size →
      Calls Tryz.prog 19 #[.agg #[.slice A n c], .slice A2 n c2, .agg #[.slice Aq np cp, .slice Am n cm], .slice A4 (k + 1) c4] w' fun e w2 => e = .returned (.tuple #[.int .i64 ((dfs (okS l ps) ((ordsL l ms vs).drop (k + 1)) ch).1 : Nat), .bool (dfs (okS l ps) ((ordsL l ms vs).drop (k + 1)) ch).2.isSome]) ∧ Below w'.heap.size w' w2)
    (h : CatAt w B A n c l) (hv : Rd w B2 A2 n vs) (hB2 : B2 ≤ w.heap.size) (hq : ReqAt w B3 Aq np Am n ps ms) (hc : Rd w B4 A4 k ch) (hB4 : B4 ≤ w.heap.size) :
    Calls Tryz.prog 19 #[.agg #[.slice A n c], .slice A2 n c2, .agg #[.slice Aq np cp, .slice Am n cm], .slice A4 k c4] w fun e w' => e = .returned (.tuple #[.int .i64 ((dfs (okS l ps) ((ordsL l ms vs).drop k) ch).1 : Nat), .bool (dfs (okS l ps) ((ordsL l ms vs).drop k) ch).2.isSome]) ∧ Below w.heap.size w w' := by
  obtain ⟨W, HW⟩ : ∃ W, Hid (W = (w.alloc (.cells #[.slice A n c] 28)).alloc (.cells #[.slice Aq np cp, .slice Am n cm] 49)) := ⟨_, Lib.hid rfl⟩
  have hbl : Below w.heap.size w W := by rw [HW.out]; exact ((Below.refl _ w).alloc (Nat.le_refl _) _).alloc (by simp) _
  have HBL := Lib.hid hbl
  have HZ : Hid (W.heap.size = w.heap.size + 2) := Lib.hid (by rw [HW.out]; simp)
  have H0 : Hid (W.heap[w.heap.size]? = some (.cells #[.slice A n c] 28 (0, 0))) := Lib.hid (by
    rw [HW.out, Below.heap_alloc _ _ _ (by simp)]; exact heap_new w _)
  have H1 : Hid (W.heap[w.heap.size + 1]? = some (.cells #[.slice Aq np cp, .slice Am n cm] 49 (0, 0))) := Lib.hid (by
    rw [HW.out]
    have h := heap_new (w.alloc (.cells #[.slice A n c] 28)) (.cells #[.slice Aq np cp, .slice Am n cm] 49)
    rw [World.size_alloc] at h; exact h)
  have IH := Lib.hid ih
  have HCA := Lib.hid h
  have HV := Lib.hid hv
  have HQ := Lib.hid hq
  have HC4 := Lib.hid hc
  have HB2 := Lib.hid hB2
  have HB4 := Lib.hid hB4
  have HS12 := Lib.hid hs12
  have HNL : Hid (l.length = n) := Lib.hid h.rd.1
  have HVL : Hid (vs.length = n) := Lib.hid hv.len
  have HCL : Hid (ch.length = k) := Lib.hid hc.len
  have HML : Hid (ms.length = n) := Lib.hid hq.md.len
  have HSET := Lib.hid (setB_iff.1 hset)
  have HMOD := Lib.hid hmod
  have hn16 := h.n16
  have HOL : Hid ((ordsL l ms vs).length = n) := Lib.hid (by rw [ordsL_len, h.rd.1])
  have HOB : Hid (∀ o ∈ ordsL l ms vs, o.length ≤ 12) := Lib.hid (fun o ho => by
    unfold ordsL ordsK at ho
    obtain ⟨i, hi, rfl⟩ := List.mem_map.1 ho
    have hi := List.mem_range.1 hi
    rw [ordV_len hs12 hset hmod hml hi]
    exact hs12 _ (svAt_mem hi))
  have HOV : Hid (∀ i, i < n → ∀ x ∈ ordV l ms vs i, isR l (i : Int) x = true) := Lib.hid (fun i hi x hx => ordV_mem hs12 hset hmod hml (by rw [h.rd.1]; exact hi) hx)
  have HOVL : Hid (∀ i, i < n → (ordV l ms vs i).length = (svAt l i).2.length) := Lib.hid (fun i hi => ordV_len hs12 hset hmod hml (by rw [h.rd.1]; exact hi))
  have HOA : Hid (k < n → (ordsL l ms vs).drop k = ordV l ms vs k :: (ordsL l ms vs).drop (k + 1)) := Lib.hid (fun hkn => by
    rw [List.drop_eq_getElem_cons (by rw [HOL.out]; exact hkn)]
    have e := ordsL_at l ms vs (i := k) (by rw [h.rd.1]; exact hkn)
    rw [← e]
    simp [List.getD, HOL.out, hkn])
  obtain ⟨T, HT0⟩ : ∃ T, Hid (dfs (okS l ps) ((ordsL l ms vs).drop k) ch = T) := ⟨_, Lib.hid rfl⟩
  rw [HT0.out]
  clear h hv hq hc hbl ih hs12 hset hmod hml hB2 hB4
  obtain ⟨x0, _⟩ := row1f H0.out
  go_enter Tryz.func19, Tryz.ntmps19
  go_upto_region 1 with fail
  change Code.wp _ _ _ _ ((w.alloc (.cells #[.slice A n c] 28)).alloc (.cells #[.slice Aq np cp, .slice Am n cm] 49))
  rw [← HW.out]
  by_cases hkn : k < n
  rotate_left
  · obtain rfl : k = n := by omega
    have hkk : ((k : Int) == (k : Int)) = true := by simp
    have HF : Hid (T = (0, some ch)) := Lib.hid (by
      rw [← HT0.out]
      rw [List.drop_of_length_le (by rw [HOL.out]; exact Nat.le_refl _)]; rfl)
    go_wp2_with fail
    go_ret2
    refine ⟨?_, HBL.out⟩
    rw [HF.out]; rfl
  have hkk : ((k : Int) == (n : Int)) = false := by rw [beq_eq_false_iff_ne]; omega
  have hki : (k : Int) < (n : Int) := by omega
  have hk0 : (0 : Int) ≤ (k : Int) := by omega
  obtain ⟨ov, HOX⟩ : ∃ o, Hid (ordV l ms vs k = o) := ⟨_, Lib.hid rfl⟩
  have HDF : Hid (dfs (okS l ps) ((ordsL l ms vs).drop k) ch = tryL (okS l ps) (dfs (okS l ps) ((ordsL l ms vs).drop (k + 1))) ch ov) := Lib.hid (by rw [HOA.out hkn, HOX.out]; rfl)
  have HTB : Hid (T.1 ≤ 1000000000000000000) := Lib.hid (by
    rw [← HT0.out]
    refine Nat.le_trans (dfs_le _ _) (nodes_big (fun o ho => HOB.out o (List.mem_of_mem_drop ho)) ?_)
    rw [List.length_drop, HOL.out]; omega)
  rw [HT0.out] at HDF
  -- the release's cells
  have HAW := Lib.hid (HCA.out.below HBL.out)
  have HVW := Lib.hid (HV.out.below (HBL.out.mono HB2.out))
  have HQW := Lib.hid (HQ.out.below HBL.out)
  obtain ⟨b1, o1, Aj, nj, cj, hA1, hb1, _, k1, _, hrj⟩ := sv_at HAW.out.rd (i := k) hkn
  subst hA1
  have HNJ : Hid ((svAt l k).2.length = nj) := Lib.hid hrj.1
  have hnj12 : nj ≤ 12 := by rw [← HNJ.out]; exact HS12.out _ (svAt_mem (by rw [HNL.out]; exact hkn))
  have HOVN : Hid (ov.length = nj) := Lib.hid (by rw [← HOX.out, HOVL.out k hkn, HNJ.out])
  obtain ⟨bm, om, hAm, hbm, km⟩ := HQW.out.md.at_ hkn
  subst hAm
  obtain ⟨bv, ovf, hAv, hbv, kv⟩ := HVW.out.at_ hkn
  subst hAv
  have hmk := modB_at HMOD.out (i := k) (by rw [HML.out]; exact hkn)
  obtain ⟨mk, hmk2⟩ : ∃ m : Nat, ix ms k = (m : Int) := ⟨(ix ms k).toNat, by omega⟩
  obtain ⟨a0, vk, ha0, hvk, _, hvkl⟩ := isR_nat (HSET.out.2 k (by rw [HVL.out]; exact hkn))
  have HOR : Hid (orderR (mk : Int) (vk : Int) nj = ov) := Lib.hid (by
    rw [← HOX.out]
    unfold ordV
    rw [hmk2, hvk, Int.toNat_natCast, Int.toNat_natCast, HNJ.out]
    obtain rfl : k = a0 := by omega
    exact orderR_is (by omega) hnj12 (by rw [← HNJ.out]; exact hvkl))
  rw [hmk2] at km
  rw [hvk] at kv
  have hvk12 : vk < 12 := by
    obtain rfl : k = a0 := by omega
    have := HNJ.out
    omega
  have HORD := Lib.hid (orderQ_any (W.drewN 1) (mk : Int) (vk : Int) nj (by omega) (by omega))
  rw [HOR.out] at HORD
  have hb1w : b1 < W.heap.size := by have := HAW.out.le; omega
  have hbmw : bm < W.heap.size := by have := HQW.out.le; omega
  have hbvw : bv < W.heap.size := by have := HB2.out; have := HBL.out.size; omega
  obtain ⟨y0, y1, _⟩ := row2 H1.out
  clear ha0 hvkl hrj hmk hmk2 hvk y0
  go_wp2_with fail
  go_region_held3 (fun W' => W'.cell? ⟨w.heap.size, 0, none⟩ = some (.slice (some ⟨b1, o1, none⟩) n c) ∧ W'.cell? ⟨w.heap.size + 1, 1, none⟩ = some (.slice (some ⟨bm, om, none⟩) n cm) ∧ W'.cell? ⟨b1, o1 + k * 2 + 1, none⟩ = some (.slice Aj nj cj) ∧ W'.cell? ⟨bm, om + k, none⟩ = some (.int .i64 (mk : Int)) ∧ W'.cell? ⟨bv, ovf + k, none⟩ = some (.int .i64 (vk : Int))) ((first | exact ⟨x0, y1, k1, km, kv⟩ | exact ⟨z0, z1, z2, z3, z4⟩ | go_keep)) (first
    | (go_at_call 42; refine HORD.out.mono ?_; rintro e w1 ⟨vO, rfl, hown', hb'⟩; (have hb : Below W.heap.size W w1 := (Below.drewN' (Below.refl _ W) 1).trans hb'); (have z0 := (hb.cell (p := ⟨w.heap.size, 0, none⟩) (heapE_lt H0.out)).trans x0); (have z1 := (hb.cell (p := ⟨w.heap.size + 1, 1, none⟩) (heapE_lt H1.out)).trans y1); (have z2 := (hb.cell (p := ⟨b1, o1 + k * 2 + 1, none⟩) hb1w).trans k1); (have z3 := (hb.cell (p := ⟨bm, om + k, none⟩) hbmw).trans km); (have z4 := (hb.cell (p := ⟨bv, ovf + k, none⟩) hbvw).trans kv); (have HBW := Lib.hid hb); (have HOO : Hid (Own w1 W.heap.size vO nj ov) := Lib.hid hown'); clear hb hb' hown'))
  obtain ⟨AO, cO, hvO, hrO⟩ := HOO.out.shape
  subst hvO
  have HRO := Lib.hid hrO
  have HW1 : Hid (Below w.heap.size w w1) := Lib.hid (HBL.out.trans (HBW.out.mono HBL.out.size))
  have K0 : Hid (w1.heap[w.heap.size]? = _) := Lib.hid ((HBW.out.block w.heap.size (heapE_lt H0.out)).trans H0.out)
  have K1 : Hid (w1.heap[w.heap.size + 1]? = _) := Lib.hid ((HBW.out.block (w.heap.size + 1) (heapE_lt H1.out)).trans H1.out)
  clear z0 z1 z2 z3 z4 x0 y1 k1 km kv hrO HORD HBW
  go_wp2_with fail
  go_loopw [11, 13, 14, 15, 16] (fun vn vq _ _ _ wr => ∃ q N : Nat, q ≤ nj ∧ vq = .int .i64 (q : Int) ∧ vn = .int .i64 (N : Int) ∧ Hid (T.1 = N + (tryL (okS l ps) (dfs (okS l ps) ((ordsL l ms vs).drop (k + 1))) ch (ov.drop q)).1 ∧ T.2 = (tryL (okS l ps) (dfs (okS l ps) ((ordsL l ms vs).drop (k + 1))) ch (ov.drop q)).2) ∧ Hid (Below w1.heap.size w1 wr)) (fun _ vq _ _ _ _ => nj - (intOf vq).toNat)
  case atStart => exact ⟨0, 0, Nat.zero_le _, rfl, rfl, Lib.hid (by rw [HDF.out, List.drop_zero]; exact ⟨(Nat.zero_add _).symm, rfl⟩), Lib.hid (Below.refl _ _)⟩
  case round =>
    obtain ⟨wk, hwk⟩ : ∃ x, x = wr := ⟨_, rfl⟩
    subst hwk
    obtain ⟨q, N, hq, rfl, rfl, HINV, HBk⟩ := hrel
    have HWK : Hid (Below w.heap.size w wk) := Lib.hid (HW1.out.trans (HBk.out.mono HW1.out.size))
    have Kk0 : Hid (wk.heap[w.heap.size]? = _) := Lib.hid ((HBk.out.block w.heap.size (heapE_lt K0.out)).trans K0.out)
    have Kk1 : Hid (wk.heap[w.heap.size + 1]? = _) := Lib.hid ((HBk.out.block (w.heap.size + 1) (heapE_lt K1.out)).trans K1.out)
    by_cases hqn : q < nj
    · have hd : decide ((q : Int) < (nj : Int)) = true := by simp; omega
      have hqi : (q : Int) < (nj : Int) := by omega
      have hq0 : (0 : Int) ≤ (q : Int) := by omega
      have hadd : IntKind.i64.wrap ((q : Int) + 1) = ((q + 1 : Nat) : Int) := by rw [IntWalk.i64_in _ (by omega)]; omega
      have HOD : Hid (ov.drop q = ix ov q :: ov.drop (q + 1)) := Lib.hid (drop_iz (by rw [HOVN.out]; exact hqn))
      have HIN2 : Hid (T.1 = N + 1 + (comb (if okS l ps (ch ++ [ix ov q]) then dfs (okS l ps) ((ordsL l ms vs).drop (k + 1)) (ch ++ [ix ov q]) else (0, none)) (tryL (okS l ps) (dfs (okS l ps) ((ordsL l ms vs).drop (k + 1))) ch (ov.drop (q + 1)))).1 ∧ T.2 = (comb (if okS l ps (ch ++ [ix ov q]) then dfs (okS l ps) ((ordsL l ms vs).drop (k + 1)) (ch ++ [ix ov q]) else (0, none)) (tryL (okS l ps) (dfs (okS l ps) ((ordsL l ms vs).drop (k + 1))) ch (ov.drop (q + 1)))).2) := Lib.hid (by
        have h := HINV.out
        rw [HOD.out, tryL_cons] at h
        refine ⟨?_, h.2⟩
        rw [h.1]
        show N + (_ + 1) = _
        omega)
      have hN : N + 1 ≤ 1000000000000000000 := by have := HIN2.out.1; have := HTB.out; omega
      have hn1 : IntKind.i64.wrap ((N : Int) + 1) = ((N + 1 : Nat) : Int) := by rw [IntWalk.i64_in _ (by omega)]; omega
      obtain ⟨bo, oo, hAO, hbo, ko⟩ := (HRO.out.below HBk.out).at_ hqn
      subst hAO
      have hvm := HOV.out k hkn (ix ov q) (by rw [HOX.out]; exact getD_mem (l := ov) (by rw [HOVN.out]; exact hqn))
      obtain ⟨a0, v, ha0, hve, _, hvl⟩ := isR_nat hvm
      obtain rfl : a0 = k := by omega
      rw [hve] at ko HIN2
      have HAk := Lib.hid (HCA.out.below HWK.out)
      have HQk := Lib.hid (HQ.out.below HWK.out)
      have hAkD : CatAt (wk.drewN 1) B (some ⟨b1, o1, none⟩) n c l := ⟨HAk.out.rd, HAk.out.cap, HAk.out.le, HAk.out.sm, HAk.out.len, HAk.out.one⟩
      have hQkD : ReqAt (wk.drewN 1) B3 Aq np (some ⟨bm, om, none⟩) n ps ms := ⟨HQk.out.pd, HQk.out.md, HQk.out.np, HQk.out.nm, HQk.out.sm, HQk.out.le⟩
      have HCk : Hid (Rd wk B4 A4 a0 ch) := Lib.hid (HC4.out.below (HWK.out.mono HB4.out))
      have hB4k : B4 ≤ wk.heap.size := Nat.le_trans HB4.out HWK.out.size
      have HFI := Lib.hid (fitsV_any (c2 := c4) (cp := cp) (cm := cm) (w := wk.drewN 1) hAkD (show Rd (wk.drewN 1) B4 A4 a0 ch from HCk.out) hB4k hkn hQkD hvl)
      have hbow : bo < wk.heap.size := by have := HBk.out.size; omega
      have HOKV : Hid (okS l ps (ch ++ [(v : Int)]) = okV l ps ch (v : Int)) := Lib.hid (okS_snoc _ _ _ _)
      obtain ⟨x0, _⟩ := row1f Kk0.out
      obtain ⟨y0, y1, _⟩ := row2 Kk1.out
      clear hAkD hQkD ha0 hve hvm hvl
      go_wp2_with fail
      go_region_held3 (fun W' => W'.cell? ⟨w.heap.size, 0, none⟩ = some (.slice (some ⟨b1, o1, none⟩) n c) ∧ W'.cell? ⟨w.heap.size + 1, 0, none⟩ = some (.slice Aq np cp) ∧ W'.cell? ⟨w.heap.size + 1, 1, none⟩ = some (.slice (some ⟨bm, om, none⟩) n cm) ∧ W'.cell? ⟨bo, oo + q, none⟩ = some (.int .i64 (v : Int))) ((first | exact ⟨x0, y0, y1, ko⟩ | exact ⟨z0, z1, z2, z3⟩ | go_keep)) (first
        | (go_at_call 43; refine HFI.out.mono ?_; rintro e w4 ⟨rfl, hb'⟩; (have hb : Below wk.heap.size wk w4 := (Below.drewN' (Below.refl _ wk) 1).trans hb'); (have z0 := (hb.cell (p := ⟨w.heap.size, 0, none⟩) (heapE_lt Kk0.out)).trans x0); (have z1 := (hb.cell (p := ⟨w.heap.size + 1, 0, none⟩) (heapE_lt Kk1.out)).trans y0); (have z2 := (hb.cell (p := ⟨w.heap.size + 1, 1, none⟩) (heapE_lt Kk1.out)).trans y1); (have z3 := (hb.cell (p := ⟨bo, oo + q, none⟩) hbow).trans ko); (have HBW := Lib.hid hb); clear hb hb'))
      have HB4w : Hid (Below w1.heap.size w1 w4) := Lib.hid (HBk.out.trans (HBW.out.mono HBk.out.size))
      clear z0 z1 z2 x0 y0 y1 ko HFI
      cases hok : okV l ps ch (v : Int) with
      | false =>
        have HNX : Hid (T.1 = (N + 1) + (tryL (okS l ps) (dfs (okS l ps) ((ordsL l ms vs).drop (a0 + 1))) ch (ov.drop (q + 1))).1 ∧ T.2 = (tryL (okS l ps) (dfs (okS l ps) ((ordsL l ms vs).drop (a0 + 1))) ch (ov.drop (q + 1))).2) := Lib.hid (by
          have h := HIN2.out
          rw [HOKV.out, hok, if_neg (by decide), comb_zero] at h
          exact h)
        clear hok z3
        go_wp2_with fail
        go_roundw
        case rel => exact ⟨q + 1, N + 1, by omega, by go_num, by first | rfl | exact congrArg (Value.int .i64) hn1, HNX, HB4w⟩
        case measure => simp [intOf]; omega
      | true =>
        have HWw4 : Hid (Below w.heap.size w w4) := Lib.hid (HWK.out.trans (HBW.out.mono HWK.out.size))
        obtain ⟨R, HR⟩ : ∃ R, Hid (dfs (okS l ps) ((ordsL l ms vs).drop (a0 + 1)) (ch ++ [(v : Int)]) = R) := ⟨_, Lib.hid rfl⟩
        have HIN3 : Hid (T.1 = N + 1 + (comb R (tryL (okS l ps) (dfs (okS l ps) ((ordsL l ms vs).drop (a0 + 1))) ch (ov.drop (q + 1)))).1 ∧ T.2 = (comb R (tryL (okS l ps) (dfs (okS l ps) ((ordsL l ms vs).drop (a0 + 1))) ch (ov.drop (q + 1)))).2) := Lib.hid (by
          have h := HIN2.out
          rw [HOKV.out, hok, if_pos rfl, HR.out] at h
          exact h)
        have HE0 := Lib.hid (Own.empty w4 w4.heap.size (Nat.le_refl _))
        have HC4a : Hid (Rd (w4.alloc (.cells #[] 3)) B4 A4 a0 ch) := Lib.hid ((HC4.out.below (HWw4.out.mono HB4.out)).alloc (Nat.le_trans HB4.out HWw4.out.size) _)
        have hB4a : B4 ≤ w4.heap.size := Nat.le_trans HB4.out HWw4.out.size
        have KO : Hid (w4.cell? ⟨bo, oo + q, none⟩ = some (.int .i64 (v : Int))) := Lib.hid z3
        clear hok z3
        go_upto_region 12 with (at_builtin; refine wpl_apps rfl (.tmp 58) (.tmp 59) rfl w4.heap.size _ 0 [] rfl HE0.out B4 A4 a0 c4 ch rfl HC4a.out (by omega) (by simp) ?_; intro v' w5 hown5 hgr5 hat5)
        have HB45 : Hid (Below w4.heap.size w4 w5) := Lib.hid (((Below.refl _ w4).alloc (Nat.le_refl _) _).grown hgr5 (by simp) (fun g hg => by
          have h1 : some w4.heap.size = some g := hg
          injection h1 with h1; omega))
        have HOJ : Hid (OwnJ 3 1 inI w5 w4.heap.size v' ch) := Lib.hid (Own.ownJ (n := a0) (by simpa using hown5))
        have hbX := HB45.out.size
        have HWX : Hid (Below w.heap.size w w5) := Lib.hid (HWw4.out.trans (HB45.out.mono HWw4.out.size))
        have KX0 : Hid (w5.heap[w.heap.size]? = some (.cells #[.slice (some ⟨b1, o1, none⟩) n c] 28 (0, 0))) := Lib.hid ((HB45.out.block w.heap.size (Nat.lt_of_lt_of_le (heapE_lt Kk0.out) HBW.out.size)).trans ((HBW.out.block w.heap.size (heapE_lt Kk0.out)).trans Kk0.out))
        have KX1 : Hid (w5.heap[w.heap.size + 1]? = some (.cells #[.slice Aq np cp, .slice (some ⟨bm, om, none⟩) n cm] 49 (0, 0))) := Lib.hid ((HB45.out.block (w.heap.size + 1) (Nat.lt_of_lt_of_le (heapE_lt Kk1.out) HBW.out.size)).trans ((HBW.out.block (w.heap.size + 1) (heapE_lt Kk1.out)).trans Kk1.out))
        have hwb : w.heap.size < w4.heap.size := Nat.lt_of_lt_of_le (heapE_lt Kk0.out) HBW.out.size
        have hwb1 : w.heap.size + 1 < w4.heap.size := Nat.lt_of_lt_of_le (heapE_lt Kk1.out) HBW.out.size
        have hbob : bo < w4.heap.size := Nat.lt_of_lt_of_le hbow HBW.out.size
        have KO5 : Hid (w5.cell? ⟨bo, oo + q, none⟩ = some (.int .i64 (v : Int))) := Lib.hid ((HB45.out.cell (p := ⟨bo, oo + q, none⟩) hbob).trans KO.out)
        obtain ⟨M, HM⟩ : ∃ M : Nat, Hid (R.1 = M) := ⟨_, Lib.hid rfl⟩
        obtain ⟨S, HS⟩ : ∃ S, Hid (R.2.isSome = S) := ⟨_, Lib.hid rfl⟩
        clear hown5 hgr5 hat5 HE0 HC4a
        refine wp_region_inv (by kernel_rfl) (I := TrJ w5 w4.heap.size v' ch (some ⟨b1, o1, none⟩) (some ⟨bv, ovf, none⟩) Aq (some ⟨bm, om, none⟩) n c c2 np cp cm nj cO q bo oo (v : Int) (M : Int) S _ _ _ _ _ _ _ _ _ _ _ _ _ _ _ _ _ _ _ _ _ _ _ _ _ _ _ _ _ _ _ _ _ _ _ _ _ _ _ _ _ _ _ _ _ _ _ _ _ _ _ _ _ _ _ _ _ _ _ _ _ _ _ _ _) (.mk false false false false false false false false false false false false false false false false _ _ _ _ _ _ _ _ _ _ _ _ _ _ _ _ _ ⟨(Below.refl _ w5).drew, nofun, nofun, nofun, nofun, nofun, nofun, nofun, nofun, nofun, nofun, nofun, nofun, nofun, nofun, fun _ => HOJ.out, nofun, nofun, nofun, nofun⟩) ?step ?fin
        case step =>
          rintro lq a' w' ix0 ⟨b0, b1, b2, b3, b4, b5, b6, b7, b8, b9, b10, b11, b12, b13, b14, b15, v62, v63, v64, v65, v66, v67, v68, v69, v70, v71, v72, v61, v73, v74, v15, v16, _, HT⟩ hi
          obtain ⟨hi_, hib⟩ := ready_lt hi
          have HTH := Lib.hid HT
          match ix0, hi_, hi, hib with
          | 0, _, hi, hib =>
            obtain rfl : b0 = false := by simpa using hib
            have hbel := HT.bel
            have HBE := Lib.hid hbel
            obtain ⟨x0, _⟩ := row1f ((hbel.block w.heap.size hwb).trans KX0.out)
            clear HT hbel
            refine wpOp_one rfl rfl (fun K hK => ?_)
            go_simp
            exact hK.out _ _ (.mk true b1 b2 b3 b4 b5 b6 b7 b8 b9 b10 b11 b12 b13 b14 b15 _ _ _ _ _ _ _ _ _ _ _ _ _ _ _ _ _ { HTH.out with h0 := fun _ => rfl })
          | 1, _, hi, hib =>
            obtain rfl : b1 = false := by simpa using hib
            have hbel := HT.bel
            have HBE := Lib.hid hbel
            clear HT hbel
            refine wpOp_one rfl rfl (fun K hK => ?_)
            go_simp
            exact hK.out _ _ (.mk b0 true b2 b3 b4 b5 b6 b7 b8 b9 b10 b11 b12 b13 b14 b15 _ _ _ _ _ _ _ _ _ _ _ _ _ _ _ _ _ { HTH.out with h1 := fun _ => rfl })
          | 2, _, hi, hib =>
            obtain rfl : b2 = false := by simpa using hib
            have hbel := HT.bel
            have HBE := Lib.hid hbel
            obtain ⟨y0, y1, _⟩ := row2 ((hbel.block (w.heap.size + 1) hwb1).trans KX1.out)
            clear HT hbel
            refine wpOp_one rfl rfl (fun K hK => ?_)
            go_simp
            exact hK.out _ _ (.mk b0 b1 true b3 b4 b5 b6 b7 b8 b9 b10 b11 b12 b13 b14 b15 _ _ _ _ _ _ _ _ _ _ _ _ _ _ _ _ _ { HTH.out with h2 := fun _ => rfl })
          | 3, _, hi, hib =>
            obtain rfl : b3 = false := by simpa using hib
            have hbel := HT.bel
            have HBE := Lib.hid hbel
            clear HT hbel
            refine wpOp_one rfl rfl (fun K hK => ?_)
            go_simp
            exact hK.out _ _ (.mk b0 b1 b2 true b4 b5 b6 b7 b8 b9 b10 b11 b12 b13 b14 b15 _ _ _ _ _ _ _ _ _ _ _ _ _ _ _ _ _ { HTH.out with h3 := fun _ => rfl })
          | 4, _, hi, hib =>
            obtain rfl : b4 = false := by simpa using hib
            have hbel := HT.bel
            have HBE := Lib.hid hbel
            clear HT hbel
            refine wpOp_one rfl rfl (fun K hK => ?_)
            go_simp
            exact hK.out _ _ (.mk b0 b1 b2 b3 true b5 b6 b7 b8 b9 b10 b11 b12 b13 b14 b15 _ _ _ _ _ _ _ _ _ _ _ _ _ _ _ _ _ { HTH.out with h4 := fun _ => rfl })
          | 5, _, hi, hib =>
            obtain rfl : b5 = false := by simpa using hib
            have hbel := HT.bel
            have HBE := Lib.hid hbel
            clear HT hbel
            refine wpOp_one rfl rfl (fun K hK => ?_)
            go_simp
            exact hK.out _ _ (.mk b0 b1 b2 b3 b4 true b6 b7 b8 b9 b10 b11 b12 b13 b14 b15 _ _ _ _ _ _ _ _ _ _ _ _ _ _ _ _ _ { HTH.out with h5 := fun _ => rfl })
          | 6, _, hi, hib =>
            obtain rfl : b6 = false := by simpa using hib
            have d4 : b4 = true := ready_dep hi rfl 4 (by kernel_rfl)
            have d5 : b5 = true := ready_dep hi rfl 5 (by kernel_rfl)
            have hd4 := HT.h4 d4
            subst hd4
            have hd5 := HT.h5 d5
            subst hd5
            have hbel := HT.bel
            have HBE := Lib.hid hbel
            clear HT hbel
            refine wpOp_one rfl rfl (fun K hK => ?_)
            go_simp
            exact hK.out _ _ (.mk b0 b1 b2 b3 b4 b5 true b7 b8 b9 b10 b11 b12 b13 b14 b15 _ _ _ _ _ _ _ _ _ _ _ _ _ _ _ _ _ { HTH.out with h6 := fun _ => rfl })
          | 7, _, hi, hib =>
            obtain rfl : b7 = false := by simpa using hib
            have d6 : b6 = true := ready_dep hi rfl 6 (by kernel_rfl)
            have hd6 := HT.h6 d6
            subst hd6
            have hbel := HT.bel
            have HBE := Lib.hid hbel
            have kk := (hbel.cell (p := ⟨bo, oo + q, none⟩) hbob).trans KO5.out
            clear HT hbel
            refine wpOp_one rfl rfl (fun K hK => ?_)
            go_simp
            exact hK.out _ _ (.mk b0 b1 b2 b3 b4 b5 b6 true b8 b9 b10 b11 b12 b13 b14 b15 _ _ _ _ _ _ _ _ _ _ _ _ _ _ _ _ _ { HTH.out with h7 := fun _ => rfl })
          | 8, _, hi, hib =>
            obtain rfl : b8 = false := by simpa using hib
            have d7 : b7 = true := ready_dep hi rfl 7 (by kernel_rfl)
            have hd7 := HT.h7 d7
            subst hd7
            have hbel := HT.bel
            have HBE := Lib.hid hbel
            obtain rfl : b9 = false := by
              cases hbl : b9 with
              | false => rfl
              | true => have h := HT.o9 hbl; cases h
            obtain rfl : b10 = false := by
              cases hbl : b10 with
              | false => rfl
              | true => have h := HT.o10 hbl; cases h
            clear HT hbel
            refine wpOp_one rfl rfl (fun K hK => ?_)
            go_simp
            have hba : Below w'.heap.size w' (w'.alloc (.cells #[.int .i64 (v : Int)] 3)) := (Below.refl _ w').alloc (Nat.le_refl _) _
            exact hK.out _ _ (.mk b0 b1 b2 b3 b4 b5 b6 b7 true false false b11 b12 b13 b14 b15 _ _ _ _ _ _ _ _ _ _ _ _ _ _ _ _ _ { HTH.out with bel := HBE.out.trans (hba.mono (Nat.le_trans hbX HBE.out.size)), ho := fun h => (HTH.out.ho h).kept in_turns hba, h8 := fun _ _ => ⟨w'.heap.size, rfl, heap_new w' _, HBE.out.size⟩, h9 := fun h => (by cases h), h10 := fun h => (by cases h), o9 := fun h => (by cases h), o10 := fun h => (by cases h) })
          | 9, _, hi, hib =>
            obtain rfl : b9 = false := by simpa using hib
            have d3 : b3 = true := ready_dep hi rfl 3 (by kernel_rfl)
            have d8 : b8 = true := ready_dep hi rfl 8 (by kernel_rfl)
            have hd3 := HT.h3 d3
            subst hd3
            have hbel := HT.bel
            have HBE := Lib.hid hbel
            obtain rfl : b10 = false := by
              cases hbl : b10 with
              | false => rfl
              | true => have h := HT.o10 hbl; cases h
            obtain ⟨g, e70, hg, hgX⟩ := HT.h8 d8 rfl
            subst e70
            have HOO := Lib.hid (HT.ho rfl)
            have HG := Lib.hid hg
            clear HT hbel hg
            refine wpOp_one rfl rfl (fun K hK => ?_)
            refine opJ_app in_turns Tryz.underlying39 infoInt rfl (by decide) (by decide) (.tmp 65) (.tmp 70) rfl w4.heap.size _ ch rfl HOO.out g [.int .i64 (v : Int)] (v : Int) rfl rfl (cells_of HG.out) (by intro u hu; simp at hu; subst hu; rfl) rfl (by have := HCL.out; omega) (Nat.le_trans hbX HBE.out.size) ?_
            intro g' c' w5 hown5 hgr5
            exact hK.out _ _ (.mk b0 b1 b2 b3 b4 b5 b6 b7 b8 true false b11 b12 b13 b14 b15 _ _ _ _ _ _ _ _ _ _ _ _ _ _ _ _ _ { HTH.out with bel := HBE.out.grown hgr5 (Nat.le_trans hbX HBE.out.size) (fun x hx => (HOO.out.ge x hx).1), ho := fun h => (by cases h), h8 := fun _ h => (by cases h), h9 := fun _ _ => ⟨g', c', rfl, hown5⟩, h10 := fun h => (by cases h), o9 := fun _ => d8, o10 := fun h => (by cases h) })
          | 10, _, hi, hib =>
            obtain rfl : b10 = false := by simpa using hib
            have d0 : b0 = true := ready_dep hi rfl 0 (by kernel_rfl)
            have d1 : b1 = true := ready_dep hi rfl 1 (by kernel_rfl)
            have d2 : b2 = true := ready_dep hi rfl 2 (by kernel_rfl)
            have d9 : b9 = true := ready_dep hi rfl 9 (by kernel_rfl)
            have hd0 := HT.h0 d0
            subst hd0
            have hd1 := HT.h1 d1
            subst hd1
            have hd2 := HT.h2 d2
            subst hd2
            have hbel := HT.bel
            have HBE := Lib.hid hbel
            obtain ⟨g9, c9, e71, hown⟩ := HT.h9 d9 rfl
            subst e71
            have HOW := Lib.hid hown
            have hw : Below w.heap.size w w' := HWX.out.trans (hbel.mono (by have := HWw4.out.size; omega))
            have hch : ch.length = a0 := HCL.out
            have HC1 := Lib.hid (IH.out _ _ _ _ _ c9 (some ⟨g9, 0, none⟩) _ hkn (HCA.out.below hw) (HV.out.below (hw.mono HB2.out)) (Nat.le_trans HB2.out hw.size) (HQ.out.below hw) (by have h := Rd.of_own (n := a0 + 1) (c := c9) (A := some ⟨g9, 0, none⟩) (xs := ch ++ [(v : Int)]) (own_of_J (n := a0 + 1) (by have e := HOW.out; rw [hch] at e; exact e) (by rw [List.length_append, hch]; rfl)); exact h) (Nat.le_refl _))
            rw [HR.out, HM.out, HS.out] at HC1
            rw [hch]
            clear HT hbel hown
            refine wpOp_one rfl rfl (fun K hK => ?_)
            go_simp
            refine (HC1.out).mono ?_
            rintro e w2 ⟨rfl, hb⟩
            exact hK.out _ _ (.mk b0 b1 b2 b3 b4 b5 b6 b7 b8 b9 true b11 b12 b13 b14 b15 _ _ _ _ _ _ _ _ _ _ _ _ _ _ _ _ _ { HTH.out with bel := HBE.out.trans (hb.mono (Nat.le_trans hbX HBE.out.size)), ho := fun h => (by rw [d9] at h; cases h), h8 := fun _ h => (by rw [d9] at h; cases h), h9 := fun _ h => (by cases h), h10 := fun _ => rfl, o10 := fun _ => d9 })
          | 11, _, hi, hib =>
            obtain rfl : b11 = false := by simpa using hib
            have d10 : b10 = true := ready_dep hi rfl 10 (by kernel_rfl)
            have hd10 := HT.h10 d10
            subst hd10
            have hbel := HT.bel
            have HBE := Lib.hid hbel
            clear HT hbel
            refine wpOp_one rfl rfl (fun K hK => ?_)
            go_simp
            exact hK.out _ _ (.mk b0 b1 b2 b3 b4 b5 b6 b7 b8 b9 b10 true b12 b13 b14 b15 _ _ _ _ _ _ _ _ _ _ _ _ _ _ _ _ _ { HTH.out with h11 := fun _ => rfl })
          | 12, _, hi, hib =>
            obtain rfl : b12 = false := by simpa using hib
            have d11 : b11 = true := ready_dep hi rfl 11 (by kernel_rfl)
            have hd11 := HT.h11 d11
            subst hd11
            have hbel := HT.bel
            have HBE := Lib.hid hbel
            clear HT hbel
            refine wpOp_one rfl rfl (fun K hK => ?_)
            go_simp
            exact hK.out _ _ (.mk b0 b1 b2 b3 b4 b5 b6 b7 b8 b9 b10 b11 true b13 b14 b15 _ _ _ _ _ _ _ _ _ _ _ _ _ _ _ _ _ { HTH.out with h12 := fun _ => rfl })
          | 13, _, hi, hib =>
            obtain rfl : b13 = false := by simpa using hib
            have d11 : b11 = true := ready_dep hi rfl 11 (by kernel_rfl)
            have hd11 := HT.h11 d11
            subst hd11
            have hbel := HT.bel
            have HBE := Lib.hid hbel
            clear HT hbel
            refine wpOp_one rfl rfl (fun K hK => ?_)
            go_simp
            exact hK.out _ _ (.mk b0 b1 b2 b3 b4 b5 b6 b7 b8 b9 b10 b11 b12 true b14 b15 _ _ _ _ _ _ _ _ _ _ _ _ _ _ _ _ _ { HTH.out with h13 := fun _ => rfl })
          | 14, _, hi, hib =>
            obtain rfl : b14 = false := by simpa using hib
            have d12 : b12 = true := ready_dep hi rfl 12 (by kernel_rfl)
            have hd12 := HT.h12 d12
            subst hd12
            have hbel := HT.bel
            have HBE := Lib.hid hbel
            clear HT hbel
            refine wpOp_one rfl rfl (fun K hK => ?_)
            go_simp
            exact hK.out _ _ (.mk b0 b1 b2 b3 b4 b5 b6 b7 b8 b9 b10 b11 b12 b13 true b15 _ _ _ _ _ _ _ _ _ _ _ _ _ _ _ _ _ { HTH.out with h14 := fun _ => rfl })
          | 15, _, hi, hib =>
            obtain rfl : b15 = false := by simpa using hib
            have d13 : b13 = true := ready_dep hi rfl 13 (by kernel_rfl)
            have hd13 := HT.h13 d13
            subst hd13
            have hbel := HT.bel
            have HBE := Lib.hid hbel
            clear HT hbel
            refine wpOp_one rfl rfl (fun K hK => ?_)
            go_simp
            exact hK.out _ _ (.mk b0 b1 b2 b3 b4 b5 b6 b7 b8 b9 b10 b11 b12 b13 b14 true _ _ _ _ _ _ _ _ _ _ _ _ _ _ _ _ _ { HTH.out with h15 := fun _ => rfl })
        case fin =>
          rintro lq a' w' ⟨b0, b1, b2, b3, b4, b5, b6, b7, b8, b9, b10, b11, b12, b13, b14, b15, v62, v63, v64, v65, v66, v67, v68, v69, v70, v71, v72, v61, v73, v74, v15, v16, _, HT⟩ hr
          obtain rfl : b0 = true := by
            cases b0 with
            | true => rfl
            | false => exact (ready_in 0 rfl rfl (by simp [Region.binds]) hr).elim
          obtain rfl : b1 = true := by
            cases b1 with
            | true => rfl
            | false => exact (ready_in 1 rfl rfl (by simp [Region.binds]) hr).elim
          obtain rfl : b2 = true := by
            cases b2 with
            | true => rfl
            | false => exact (ready_in 2 rfl rfl (by simp [Region.binds]) hr).elim
          obtain rfl : b3 = true := by
            cases b3 with
            | true => rfl
            | false => exact (ready_in 3 rfl rfl (by simp [Region.binds]) hr).elim
          obtain rfl : b4 = true := by
            cases b4 with
            | true => rfl
            | false => exact (ready_in 4 rfl rfl (by simp [Region.binds]) hr).elim
          obtain rfl : b5 = true := by
            cases b5 with
            | true => rfl
            | false => exact (ready_in 5 rfl rfl (by simp [Region.binds]) hr).elim
          obtain rfl : b6 = true := by
            cases b6 with
            | true => rfl
            | false => exact (ready_in 6 rfl rfl (by simp [Region.binds]) hr).elim
          obtain rfl : b7 = true := by
            cases b7 with
            | true => rfl
            | false => exact (ready_in 7 rfl rfl (by simp [Region.binds]) hr).elim
          obtain rfl : b8 = true := by
            cases b8 with
            | true => rfl
            | false => exact (ready_in 8 rfl rfl (by simp [Region.binds]) hr).elim
          obtain rfl : b9 = true := by
            cases b9 with
            | true => rfl
            | false => exact (ready_in 9 rfl rfl (by simp [Region.binds]) hr).elim
          obtain rfl : b10 = true := by
            cases b10 with
            | true => rfl
            | false => exact (ready_in 10 rfl rfl (by simp [Region.binds]) hr).elim
          obtain rfl : b11 = true := by
            cases b11 with
            | true => rfl
            | false => exact (ready_in 11 rfl rfl (by simp [Region.binds]) hr).elim
          obtain rfl : b12 = true := by
            cases b12 with
            | true => rfl
            | false => exact (ready_in 12 rfl rfl (by simp [Region.binds]) hr).elim
          obtain rfl : b13 = true := by
            cases b13 with
            | true => rfl
            | false => exact (ready_in 13 rfl rfl (by simp [Region.binds]) hr).elim
          obtain rfl : b14 = true := by
            cases b14 with
            | true => rfl
            | false => exact (ready_in 14 rfl rfl (by simp [Region.binds]) hr).elim
          obtain rfl : b15 = true := by
            cases b15 with
            | true => rfl
            | false => exact (ready_in 15 rfl rfl (by simp [Region.binds]) hr).elim
          have k0 := HT.h0 rfl
          subst k0
          have k1 := HT.h1 rfl
          subst k1
          have k2 := HT.h2 rfl
          subst k2
          have k3 := HT.h3 rfl
          subst k3
          have k4 := HT.h4 rfl
          subst k4
          have k5 := HT.h5 rfl
          subst k5
          have k6 := HT.h6 rfl
          subst k6
          have k7 := HT.h7 rfl
          subst k7
          have k10 := HT.h10 rfl
          subst k10
          have k11 := HT.h11 rfl
          subst k11
          have k12 := HT.h12 rfl
          subst k12
          have k13 := HT.h13 rfl
          subst k13
          have k14 := HT.h14 rfl
          subst k14
          have k15 := HT.h15 rfl
          subst k15
          have HBZ := Lib.hid HT.bel
          clear HT
          have HB1z : Hid (Below w1.heap.size w1 w') := Lib.hid (HB4w.out.trans ((HB45.out.trans HBZ.out).mono HB4w.out.size))
          have hMN : N + 1 + M ≤ 1000000000000000000 := by
            have h1 := HIN3.out.1
            have h2 := HTB.out
            have h3 := HM.out
            unfold comb at h1
            split at h1
            · omega
            · simp only at h1; omega
          have hn2 : IntKind.i64.wrap (((N + 1 : Nat) : Int) + (M : Int)) = ((N + 1 + M : Nat) : Int) := by rw [IntWalk.i64_in _ (by omega)]; omega
          cases S with
          | true =>
            have HFI : Hid (T.1 = N + 1 + M ∧ T.2.isSome = true) := Lib.hid (by
              have h := HIN3.out
              rw [comb_some HS.out] at h
              exact ⟨by rw [h.1, HM.out], by rw [h.2]; exact HS.out⟩)
            go_wp2_with fail
            go_ret2
            refine ⟨?_, HW1.out.trans (HB1z.out.mono HW1.out.size)⟩
            rw [HFI.out.1, HFI.out.2]
            first | rfl | (go_simp; done) | (push_cast; rfl) | (simp; done)
          | false =>
            have HNX : Hid (T.1 = (N + 1 + M) + (tryL (okS l ps) (dfs (okS l ps) ((ordsL l ms vs).drop (a0 + 1))) ch (ov.drop (q + 1))).1 ∧ T.2 = (tryL (okS l ps) (dfs (okS l ps) ((ordsL l ms vs).drop (a0 + 1))) ch (ov.drop (q + 1))).2) := Lib.hid (by
              have h := HIN3.out
              rw [comb_none (by have := HS.out; cases hr : R.2 with | none => rfl | some t => rw [hr] at this; cases this)] at h
              refine ⟨?_, h.2⟩
              rw [h.1, HM.out]
              show N + 1 + (M + _) = _
              omega)
            go_wp2_with fail
            go_roundw
            case rel => exact ⟨q + 1, N + 1 + M, by omega, by go_num, by first | rfl | exact congrArg (Value.int .i64) hn2, HNX, HB1z⟩
            case measure => simp [intOf]; omega
    · have hd : decide ((q : Int) < (nj : Int)) = false := by simp; omega
      obtain rfl : q = nj := by omega
      have HFI : Hid (T.1 = N ∧ T.2.isSome = false) := Lib.hid (by
        have h := HINV.out
        have e : ov.drop q = [] := List.drop_of_length_le (by rw [HOVN.out]; exact Nat.le_refl _)
        rw [e] at h
        exact ⟨h.1, by rw [h.2]; rfl⟩)
      go_wp2_with fail
      go_ret2
      refine ⟨?_, HWK.out⟩
      rw [HFI.out.1, HFI.out.2]
      first | rfl | (go_simp; done) | (push_cast; rfl) | (simp; done)
theorem triesQ_any {n c c2 np cp cm : Nat} {A A2 Aq Am : Option Addr} {l : List Sv} {vs ms : List Int} {ps : List Nd} (hs12 : ∀ s ∈ l, s.2.length ≤ 12) (hset : setB l vs = true) (hmod : modB ms = true) (hml : ms.length = l.length) :
    ∀ (d k : Nat) {w : World} {B B2 B3 B4 c4 : Nat} {A4 : Option Addr} {ch : List Int}, k + d = n → CatAt w B A n c l → Rd w B2 A2 n vs → B2 ≤ w.heap.size → ReqAt w B3 Aq np Am n ps ms → Rd w B4 A4 k ch → B4 ≤ w.heap.size →
      Calls Tryz.prog 19 #[.agg #[.slice A n c], .slice A2 n c2, .agg #[.slice Aq np cp, .slice Am n cm], .slice A4 k c4] w fun e w' => e = .returned (.tuple #[.int .i64 ((dfs (okS l ps) ((ordsL l ms vs).drop k) ch).1 : Nat), .bool (dfs (okS l ps) ((ordsL l ms vs).drop k) ch).2.isSome]) ∧ Below w.heap.size w w'
  | 0, k, _, _, _, _, _, _, _, _, hd, h, hv, hB2, hq, hc, hB4 => tries_step hs12 hset hmod hml (by omega) (fun _ _ _ _ _ _ _ _ hk => absurd hk (by omega)) h hv hB2 hq hc hB4
  | d + 1, k, _, _, _, _, _, _, _, _, hd, h, hv, hB2, hq, hc, hB4 => tries_step hs12 hset hmod hml (by omega) (fun _ _ _ _ _ _ _ _ hk h hv hB2 hq hc hB4 => triesQ_any hs12 hset hmod hml d (k + 1) (by omega) h hv hB2 hq hc hB4) h hv hB2 hq hc hB4
end Go.Proofs.YtlodledcglleiaaGreat
