/-
  CONTRACTS: the program's oneNumber, Decode (printed by genhde.py).
-/
import Derived.Test.YtolgmoaoheflcaaHPu
import Derived.Laws.ResultCell
namespace Go.Proofs.Ytolgmoaoheflcaa
open Go.RowKit
open ByteP CodeP
set_option linter.unusedVariables false
set_option linter.unusedSimpArgs false
set_option maxRecDepth 10000
theorem ret2_eq {a a' b b' : Int} (h : a = a') (k : b = b') : Ending.returned (.tuple #[.int .i64 a, .int .i64 b]) = Ending.returned (.tuple #[.int .i64 a', .int .i64 b']) := by subst h k; rfl
theorem oneNumber_any {w : World} {B n c : Nat} {A : Option Addr} {bs : List Int} (hr : RdY w B A n bs) (hc : CapA A n c) (hB : B ≤ w.heap.size) (hb : Bytes bs) (hl : n ≤ 1000000000) :
    Calls Try.prog 46 #[.slice A n c] w fun e w' => e = .returned (.tuple #[.int .i64 (oneN bs), .int .i64 (oneE bs)]) ∧ Below w.heap.size w w' := by
  have HG := Lib.hid (getN_any hr hc hB hb hl)
  have HBY := Lib.hid hb
  clear hr hc hb
  go_enter Try.func46, Try.ntmps46
  go_wp2_with fail
  refine HG.out.mono ?_
  rintro e w1 ⟨A', n', c', er, rfl, hb1, hp⟩
  have HB1 := Lib.hid hb1
  clear HG hb1
  cases hr : all bs with
  | inl e =>
    rw [hr] at hp
    obtain ⟨e1, rfl, he⟩ := hp
    injection e1 with e2 e3 e4
    subst e2 e3 e4
    have HE : Hid (oneE bs = er) := Lib.hid (by unfold oneE; rw [hr])
    have HN : Hid (oneN bs = 0) := Lib.hid (by unfold oneN; rw [hr])
    have hne : (er != 0) = true := by rcases he with h | h <;> subst h <;> rfl
    clear hr he
    go_wp2_with fail
    go_ret2
    exact ⟨ret2_eq HN.out.symm HE.out.symm, HB1.out⟩
  | inr l =>
    rw [hr] at hp
    obtain ⟨rfl, hown⟩ := hp
    obtain ⟨A2, c2, e1, hrd⟩ := hown.shape
    injection e1 with e2 e3 e4
    subst e2 e3 e4
    by_cases h1 : l.length = 1
    · have HE : Hid (oneE bs = 0) := Lib.hid (by unfold oneE; rw [hr]; simp only; rw [if_pos h1])
      obtain ⟨v, HV⟩ : ∃ v, Hid (ix (casts l) 0 = v) := ⟨_, Lib.hid rfl⟩
      have HN : Hid (oneN bs = v) := Lib.hid (by unfold oneN; rw [hr]; simp only; rw [if_pos h1]; exact HV.out)
      rw [h1] at hrd
      obtain ⟨b, off, rfl, _, hcell⟩ := hrd.at_ (k := 0) (by omega)
      rw [HV.out, Nat.add_zero] at hcell
      rw [h1]
      clear hr hown hrd h1
      go_wp2_with fail
      go_ret2
      exact ⟨ret2_eq HN.out.symm HE.out.symm, HB1.out⟩
    · have HE : Hid (oneE bs = 12) := Lib.hid (by unfold oneE; rw [hr]; simp only; rw [if_neg h1])
      have HN : Hid (oneN bs = 0) := Lib.hid (by unfold oneN; rw [hr]; simp only; rw [if_neg h1])
      have hne : ((l.length : Int) != 1) = true := by rw [bne_iff_ne]; omega
      clear hr hown hrd h1
      go_wp2_with fail
      go_ret2
      exact ⟨ret2_eq HN.out.symm HE.out.symm, HB1.out⟩
/-- What Decode answers. -/
def DecP (w' : World) (bs : List Int) (kd sp : Int) (A1 : Option Addr) (n1 : Nat) (A2 : Option Addr) (n2 : Nat) (A3 : Option Addr) (n3 : Nat) (A4 : Option Addr) (n4 : Nat) (er : Int) : Prop :=
  er = decE bs ∧ (er ≠ 0 → kd = 0 ∧ sp = 0 ∧ n3 = 0) ∧ (er = 0 → ∃ fs ts ps qs, n1 = fs.length ∧ n2 = ts.length ∧ n3 = ps.length ∧ n4 = qs.length ∧ RdPl w' w'.heap.size A1 A2 A3 A4 fs ts ps qs ∧ rcO kd sp fs ts ps qs = bs ∧ rcB kd sp fs ts ps qs = false ∧ sp = decN kd bs.tail)
theorem DecP.bad {w' : World} {bs : List Int} {er : Int} (h : decE bs = er) (h0 : er ≠ 0) : DecP w' bs 0 0 none 0 none 0 none 0 none 0 er := ⟨h.symm, fun _ => ⟨rfl, rfl, rfl⟩, fun e => absurd e h0⟩
theorem rdPl_nil {w : World} {B : Nat} : RdPl w B none none none none [] [] [] [] := ⟨Rd.nil_, Rd.nil_, RdP.nil_, RdP.nil_, by simp, by simp, by simp, by simp⟩
def rccell (T : TypeId) (a b v1 v2 v3 v4 : Value) : Obj := .cells #[a, b, v1, v2, v3, v4] T (0, 0)
theorem set6_below {B : Nat} {w v : World} {g : Nat} (h : Below B w v) (hg : B ≤ g) (a b c d e f : Value) : Below B w ((((((v.setCell ⟨g, 0, none⟩ a).setCell ⟨g, 1, none⟩ b).setCell ⟨g, 2, none⟩ c).setCell ⟨g, 3, none⟩ d).setCell ⟨g, 4, none⟩ e).setCell ⟨g, 5, none⟩ f) :=
  (((((h.setCell (p := ⟨g, 0, none⟩) hg a).setCell (p := ⟨g, 1, none⟩) hg b).setCell (p := ⟨g, 2, none⟩) hg c).setCell (p := ⟨g, 3, none⟩) hg d).setCell (p := ⟨g, 4, none⟩) hg e).setCell (p := ⟨g, 5, none⟩) hg f
theorem set6_grown (w : World) (g : Nat) (a b c d e f : Value) : w.grownBy ((((((w.setCell ⟨g, 0, none⟩ a).setCell ⟨g, 1, none⟩ b).setCell ⟨g, 2, none⟩ c).setCell ⟨g, 3, none⟩ d).setCell ⟨g, 4, none⟩ e).setCell ⟨g, 5, none⟩ f) (some g) :=
  grown_add (grown_add (set4_grown w g a b c d) (grown_set _ g 4 e)) (grown_set _ g 5 f)
theorem set4p_grown (w : World) (g : Nat) (a b c d : Value) : w.grownBy ((((w.setCell ⟨g, 2, none⟩ a).setCell ⟨g, 3, none⟩ b).setCell ⟨g, 4, none⟩ c).setCell ⟨g, 5, none⟩ d) (some g) :=
  grown_add (grown_add (grown_add (grown_set w g 2 a) (grown_set _ g 3 b)) (grown_set _ g 4 c)) (grown_set _ g 5 d)
theorem set4p_same {w : World} {g : Nat} {k s x y z u a b c d : Value} {t : TypeId} (h : w.heap[g]? = some (.cells #[k, s, x, y, z, u] t (0, 0))) : ((((w.setCell ⟨g, 2, none⟩ a).setCell ⟨g, 3, none⟩ b).setCell ⟨g, 4, none⟩ c).setCell ⟨g, 5, none⟩ d).heap[g]? = some (.cells #[k, s, a, b, c, d] t (0, 0)) :=
  heap_setCell_same _ g 5 _ _ d (heap_setCell_same _ g 4 _ _ c (heap_setCell_same _ g 3 _ _ b (heap_setCell_same w g 2 _ _ a h)))
theorem decE_cons (k : Int) (r : List Int) : decE (k :: r) = if Sa.rkB k then decT k r else 12 := rfl
/-- What was read is written as the same bytes: a plan, a step, nothing. -/
theorem back_plan {r fs ts : List Int} {ps qs : List (Int × Int)} (ho : plO fs ts ps qs = r) (hb : plB fs ts ps qs = false) : rcO 1 0 fs ts ps qs = 1 :: r ∧ rcB 1 0 fs ts ps qs = false := by
  refine ⟨?_, ?_⟩
  · unfold rcO tlO; rw [if_pos rfl, ho]
  · unfold rcB tlB; rw [if_pos rfl, hb, fm_one]; rfl
theorem back_step {k : Int} {r : List Int} (hk : Sa.rkB k = true) (ks : Sa.ofStepB k = true) (k1 : k ≠ 1) (hb : Bytes r) (h : oneE r = 0) : rcO k (oneN r) [] [] [] [] = k :: r ∧ rcB k (oneN r) [] [] [] [] = false := by
  obtain ⟨h1, h2⟩ := one_back hb h
  refine ⟨?_, ?_⟩
  · unfold rcO tlO; rw [if_neg k1, if_pos ks, h2]
  · unfold rcB tlB; rw [if_neg k1, if_pos ks, h1, fm_nil hk (.inr ks)]; rfl
theorem back_bare {k : Int} (hk : Sa.rkB k = true) (ks : Sa.ofStepB k = false) (k1 : k ≠ 1) : rcO k 0 [] [] [] [] = [k] ∧ rcB k 0 [] [] [] [] = false := by
  refine ⟨?_, ?_⟩
  · unfold rcO tlO; rw [if_neg k1, if_neg (by rw [ks]; simp)]
  · unfold rcB tlB; rw [if_neg k1, if_neg (by rw [ks]; simp), fm_nil hk (.inl rfl)]; rfl
set_option maxHeartbeats 16000000 in
theorem decode_any {w : World} {B n c : Nat} {A : Option Addr} {bs : List Int} (hr : RdY w B A n bs) (hc : CapA A n c) (hB : B ≤ w.heap.size) (hb : Bytes bs) (hl : n ≤ 10000) :
    Calls Try.prog 20 #[.slice A n c] w fun en w' => ∃ kd sp A1 n1 c1 A2 n2 c2 A3 n3 c3 A4 n4 c4 er, en = .returned (.tuple #[.agg #[.int .i64 kd, .int .i64 sp, .slice A1 n1 c1, .slice A2 n2 c2, .slice A3 n3 c3, .slice A4 n4 c4], .int .i64 er]) ∧ Below w.heap.size w w' ∧ DecP w' bs kd sp A1 n1 A2 n2 A3 n3 A4 n4 er := by
  have hlen := hr.len
  obtain rfl := hlen
  obtain ⟨V, HV0⟩ : ∃ V, Hid (V = w.alloc (.cells #[.int .i64 0, .int .i64 0, .slice none 0 0, .slice none 0 0, .slice none 0 0, .slice none 0 0] 33)) := ⟨_, Lib.hid rfl⟩
  have HBV : Hid (Below w.heap.size w V) := Lib.hid (by rw [HV0.out]; exact (Below.refl _ w).alloc (Nat.le_refl _) _)
  have HZV : Hid (V.heap.size = w.heap.size + 1) := Lib.hid (by rw [HV0.out]; simp)
  have G0 : Hid (V.heap[w.heap.size]? = some (.cells #[.int .i64 0, .int .i64 0, .slice none 0 0, .slice none 0 0, .slice none 0 0, .slice none 0 0] 33 (0, 0))) := Lib.hid (by rw [HV0.out]; exact heap_new w _)
  cases bs with
  | nil =>
    have HDE : Hid (decE [] = 13) := Lib.hid rfl
    have HNE : Hid ((13 : Int) ≠ 0) := Lib.hid (by decide)
    obtain ⟨y0, y1, y2, y3, y4, y5⟩ := Sa.row6 G0.out
    have yf := Sa.free_row G0.out
    have q0 := yf 0; have q1 := yf 1; have q2 := yf 2; have q3 := yf 3; have q4 := yf 4; have q5 := yf 5
    clear yf hr hc hb
    go_enter Try.func20, Try.ntmps20
    go_upto_region 1 with fail
    change Code.wp _ _ _ _ (w.alloc (.cells #[.int .i64 0, .int .i64 0, .slice none 0 0, .slice none 0 0, .slice none 0 0, .slice none 0 0] 33))
    rw [← HV0.out]
    go_wp2_with fail
    refine bodyPost_ret (v := .tuple #[.agg #[.int .i64 0, .int .i64 0, .slice none 0 0, .slice none 0 0, .slice none 0 0, .slice none 0 0], .int .i64 13]) ?_ rfl ⟨0, 0, none, 0, 0, none, 0, 0, none, 0, 0, none, 0, 0, 13, rfl, set6_below HBV.out (Nat.le_refl _) _ _ _ _ _ _, DecP.bad HDE.out HNE.out⟩
    rw [results_cell_tmp rfl]; go_simp
  | cons k r =>
    have hln : (k :: r).length = r.length + 1 := rfl
    rw [hln] at hr hc hl ⊢
    have hz : (((r.length + 1 : Nat) : Int) == 0) = false := by rw [beq_eq_false_iff_ne]; omega
    have hz' : (((r.length : Int) + 1) == 0) = false := by rw [beq_eq_false_iff_ne]; omega
    have hk0 : 0 ≤ k := by have := (hb 0).1; simpa [ix] using this
    have hk1 : k ≤ 255 := by have := (hb 0).2; simpa [ix] using this
    have hbr : Bytes r := fun i => by have := hb (i + 1); simpa [ix] using this
    obtain ⟨D, hs2, hrd2, hcap2⟩ := hsrE hc (q := 1) (by omega) hr
    obtain ⟨b1, o1, rfl, hb1, hcell⟩ := hr.at_ (k := 0) (by omega)
    have hix : ix (k :: r) 0 = k := rfl
    rw [hix, Nat.add_zero] at hcell
    have e1 : r.length + 1 - 1 = r.length := by omega
    rw [e1] at hs2 hrd2 hcap2
    have hs2' : ∀ w, (Instr.slice 44 (.slice (some ⟨b1, o1, none⟩) (r.length + 1) c) (some (.int .i64 1)) none none).run Try.prog w = .ok (.slice D r.length (c - 1)) w := hs2
    have hcV : V.cell? ⟨b1, o1, none⟩ = some (.int .u8 k) := (HBV.out.cell (p := ⟨b1, o1, none⟩) (by show b1 < w.heap.size; omega)).trans hcell
    obtain ⟨W, HW⟩ : ∃ W, Hid (W = V.alloc (.cells #[.int .i64 k, .int .i64 0, .slice none 0 0, .slice none 0 0, .slice none 0 0, .slice none 0 0] 33)) := ⟨_, Lib.hid rfl⟩
    have HBL : Hid (Below w.heap.size w W) := Lib.hid (by rw [HW.out]; exact HBV.out.alloc HBV.out.size _)
    have HZ : Hid (W.heap.size = w.heap.size + 2) := Lib.hid (by rw [HW.out, World.size_alloc, HZV.out])
    have H0 : Hid (W.heap[w.heap.size]? = some (.cells #[.int .i64 0, .int .i64 0, .slice none 0 0, .slice none 0 0, .slice none 0 0, .slice none 0 0] 33 (0, 0))) := Lib.hid (by rw [HW.out, Below.heap_alloc _ _ _ (heapE_lt G0.out)]; exact G0.out)
    have H1 : Hid (W.heap[w.heap.size + 1]? = some (.cells #[.int .i64 k, .int .i64 0, .slice none 0 0, .slice none 0 0, .slice none 0 0, .slice none 0 0] 33 (0, 0))) := Lib.hid (by
      rw [HW.out]
      have h := heap_new V (.cells #[.int .i64 k, .int .i64 0, .slice none 0 0, .slice none 0 0, .slice none 0 0, .slice none 0 0] 33)
      rw [HZV.out] at h; exact h)
    have HX : Hid (∀ Z, Below W.heap.size W Z → Z.heap[w.heap.size]? = some (.cells #[.int .i64 0, .int .i64 0, .slice none 0 0, .slice none 0 0, .slice none 0 0, .slice none 0 0] 33 (0, 0)) ∧ Z.heap[w.heap.size + 1]? = some (.cells #[.int .i64 k, .int .i64 0, .slice none 0 0, .slice none 0 0, .slice none 0 0, .slice none 0 0] 33 (0, 0))) := Lib.hid (fun Z hZ => ⟨(hZ.block _ (heapE_lt H0.out)).trans H0.out, (hZ.block _ (heapE_lt H1.out)).trans H1.out⟩)
    have HRD : Hid (RdY W B D r.length r) := Lib.hid (by have h : RdY w B D r.length r := hrd2; exact h.below (HBL.out.mono hB))
    have HCP := Lib.hid hcap2
    have HBR := Lib.hid hbr
    have HRK := Lib.hid (Sa.rightKind_any k W)
    clear hr hc hb hs2 hrd2 hcap2 hcell hbr e1 hix
    go_enter Try.func20, Try.ntmps20
    go_upto_region 1 with fail
    change Code.wp _ _ _ _ (w.alloc (.cells #[.int .i64 0, .int .i64 0, .slice none 0 0, .slice none 0 0, .slice none 0 0, .slice none 0 0] 33))
    rw [← HV0.out]
    go_upto_region 4 with fail
    rw [HZV.out]
    change Code.wp _ _ _ _ (V.alloc (.cells #[.int .i64 k, .int .i64 0, .slice none 0 0, .slice none 0 0, .slice none 0 0, .slice none 0 0] 33))
    rw [← HW.out]
    clear hcV
    obtain ⟨x0, x1, x2, x3, x4, x5⟩ := Sa.row6 H1.out
    go_wp2_with fail
    refine HRK.out.mono ?_
    rintro e w1 ⟨rfl, hb1'⟩
    have HBW1 := Lib.hid hb1'
    have HB1 : Hid (Below w.heap.size w w1) := Lib.hid (HBL.out.trans (hb1'.mono HBL.out.size))
    have hz1 := hb1'.size
    clear hb1' x0 x1 x2 x3 x4 x5 HRK
    have HD1 := Lib.hid (HX.out w1 HBW1.out)
    cases hrk : Sa.rkB k with
    | false =>
      have HDE : Hid (decE (k :: r) = 12) := Lib.hid (by rw [decE_cons, hrk]; rfl)
      have HNE : Hid ((12 : Int) ≠ 0) := Lib.hid (by decide)
      obtain ⟨y0, y1, y2, y3, y4, y5⟩ := Sa.row6 HD1.out.1
      have yf := Sa.free_row HD1.out.1
      obtain ⟨x0, x1, x2, x3, x4, x5⟩ := Sa.row6 HD1.out.2
      have q0 := yf 0; have q1 := yf 1; have q2 := yf 2; have q3 := yf 3; have q4 := yf 4; have q5 := yf 5
      clear yf hrk
      go_wp2_with fail
      refine bodyPost_ret (v := .tuple #[.agg #[.int .i64 0, .int .i64 0, .slice none 0 0, .slice none 0 0, .slice none 0 0, .slice none 0 0], .int .i64 12]) ?_ rfl ⟨0, 0, none, 0, 0, none, 0, 0, none, 0, 0, none, 0, 0, 12, rfl, set6_below HB1.out (Nat.le_refl _) _ _ _ _ _ _, DecP.bad HDE.out HNE.out⟩
      rw [results_cell_tmp rfl]; go_simp
    | true =>
      have HT : Hid (decE (k :: r) = decT k r) := Lib.hid (by rw [decE_cons, hrk]; rfl)
      have HRKB := Lib.hid hrk
      obtain ⟨x0, x1, x2, x3, x4, x5⟩ := Sa.row6 HD1.out.2
      have hzz := HZ.out
      have hBW1 : B ≤ w1.heap.size := by omega
      have HRD1 : Hid (RdY w1 B D r.length r) := Lib.hid (HRD.out.below (HBW1.out.mono (by omega)))
      by_cases k1 : k = 1
      · subst k1
        have HT1 : Hid (decE (1 :: r) = endS (plS4 (.inr r))) := Lib.hid (by rw [HT.out]; unfold decT; rw [if_pos rfl])
        have HGP := Lib.hid (getPlan_any HRD1.out HCP.out hBW1 HBR.out (by omega))
        clear hrk hzz
        go_wp2_with fail
        refine HGP.out.mono ?_
        rintro e w2 ⟨A1, n1, c1, A2, n2, c2, A3, n3, c3, A4, n4, c4, rfl, hb2, _, hl2⟩
        have HL2 := Lib.hid hl2
        have HB2 : Hid (Below w.heap.size w w2) := Lib.hid (HB1.out.trans (hb2.mono HB1.out.size))
        have HD2 := Lib.hid (HX.out w2 (HBW1.out.trans (hb2.mono hz1)))
        have hz2 := hb2.size
        clear hb2 hl2 HGP x0 x1 x2 x3 x4 x5
        obtain ⟨er, HER⟩ : ∃ er, Hid (endS (plS4 (.inr r)) = er) := ⟨_, Lib.hid rfl⟩
        rw [HER.out] at HL2
        rw [HER.out]
        obtain ⟨U, HU⟩ : ∃ U, Hid (U = (((w2.setCell ⟨w.heap.size + 1, 2, none⟩ (.slice A1 n1 c1)).setCell ⟨w.heap.size + 1, 3, none⟩ (.slice A2 n2 c2)).setCell ⟨w.heap.size + 1, 4, none⟩ (.slice A3 n3 c3)).setCell ⟨w.heap.size + 1, 5, none⟩ (.slice A4 n4 c4)) := ⟨_, Lib.hid rfl⟩
        have HGU : Hid (w2.grownBy U (some (w.heap.size + 1))) := Lib.hid (by rw [HU.out]; exact set4p_grown _ _ _ _ _ _)
        have HBU : Hid (Below w.heap.size w U) := Lib.hid (HB2.out.grown HGU.out HB2.out.size (fun g hg => by injection hg with hg; omega))
        have HDU : Hid (U.heap[w.heap.size]? = some (.cells #[.int .i64 0, .int .i64 0, .slice none 0 0, .slice none 0 0, .slice none 0 0, .slice none 0 0] 33 (0, 0)) ∧ U.heap[w.heap.size + 1]? = some (.cells #[.int .i64 1, .int .i64 0, .slice A1 n1 c1, .slice A2 n2 c2, .slice A3 n3 c3, .slice A4 n4 c4] 33 (0, 0))) := Lib.hid ⟨(HGU.out.block w.heap.size (heapE_lt HD2.out.1) (fun e => by injection e with e; omega)).trans HD2.out.1, by rw [HU.out]; exact set4p_same HD2.out.2⟩
        obtain ⟨x0, x1, x2, x3, x4, x5⟩ := Sa.row6 HD2.out.2
        have xf := Sa.free_row HD2.out.2
        have p2 := xf 2; have p3 := xf 3; have p4 := xf 4; have p5 := xf 5
        clear xf
        go_upto_region 14 with fail
        change Code.wp _ _ _ _ ((((w2.setCell ⟨w.heap.size + 1, 2, none⟩ (.slice A1 n1 c1)).setCell ⟨w.heap.size + 1, 3, none⟩ (.slice A2 n2 c2)).setCell ⟨w.heap.size + 1, 4, none⟩ (.slice A3 n3 c3)).setCell ⟨w.heap.size + 1, 5, none⟩ (.slice A4 n4 c4))
        rw [← HU.out]
        clear x0 x1 x2 x3 x4 x5 p2 p3 p4 p5
        by_cases h0 : er = 0
        · subst h0
          obtain ⟨i1, i2, i3, i4⟩ := HL2.out rfl
          have hbs : w.heap.size + 1 < w1.heap.size := by have := HZ.out; omega
          have I1 := Lib.hid (i1.grown HGU.out (fun g hg => by injection hg with hg; omega))
          have I2 := Lib.hid (i2.grown HGU.out (fun g hg => by injection hg with hg; omega))
          have I3 := Lib.hid (i3.grown HGU.out (fun g hg => by injection hg with hg; omega))
          have I4 := Lib.hid (i4.grown HGU.out (fun g hg => by injection hg with hg; omega))
          obtain ⟨y0, y1, y2, y3, y4, y5⟩ := Sa.row6 HDU.out.1
          have yf := Sa.free_row HDU.out.1
          obtain ⟨x0, x1, x2, x3, x4, x5⟩ := Sa.row6 HDU.out.2
          have q0 := yf 0; have q1 := yf 1; have q2 := yf 2; have q3 := yf 3; have q4 := yf 4; have q5 := yf 5
          clear yf i1 i2 i3 i4
          have HGF := Lib.hid (set6_grown U w.heap.size (.int .i64 1) (.int .i64 0) (.slice A1 n1 c1) (.slice A2 n2 c2) (.slice A3 n3 c3) (.slice A4 n4 c4))
          have HFIN := Lib.hid (rdPl_far HBR.out (by omega) HER.out (I1.out.grown HGF.out (fun g hg => by injection hg with hg; omega)) (I2.out.grown HGF.out (fun g hg => by injection hg with hg; omega)) (I3.out.grown HGF.out (fun g hg => by injection hg with hg; omega)) (I4.out.grown HGF.out (fun g hg => by injection hg with hg; omega)))
          clear hbs
          go_wp2_with fail
          refine bodyPost_ret (v := .tuple #[.agg #[.int .i64 1, .int .i64 0, .slice A1 n1 c1, .slice A2 n2 c2, .slice A3 n3 c3, .slice A4 n4 c4], .int .i64 0]) ?_ rfl ⟨1, 0, A1, n1, c1, A2, n2, c2, A3, n3, c3, A4, n4, c4, 0, rfl, set6_below HBU.out (Nat.le_refl _) _ _ _ _ _ _, (HT1.out.trans HER.out).symm, fun h => absurd rfl h, fun _ => ?_⟩
          · rw [results_cell_tmp rfl]; go_simp
          · obtain ⟨fs, ts, ps, qs, a1, a2, a3, a4, a5, a6, a7⟩ := HFIN.out
            obtain ⟨b1, b2⟩ := back_plan a6 a7
            exact ⟨fs, ts, ps, qs, a1, a2, a3, a4, a5, b1, b2, rfl⟩
        · have HDE : Hid (decE (1 :: r) = er) := Lib.hid (HT1.out.trans HER.out)
          have HNE := Lib.hid h0
          have hne : (er != 0) = true := by rw [bne_iff_ne]; exact h0
          obtain ⟨y0, y1, y2, y3, y4, y5⟩ := Sa.row6 HDU.out.1
          have yf := Sa.free_row HDU.out.1
          obtain ⟨x0, x1, x2, x3, x4, x5⟩ := Sa.row6 HDU.out.2
          have q0 := yf 0; have q1 := yf 1; have q2 := yf 2; have q3 := yf 3; have q4 := yf 4; have q5 := yf 5
          clear yf h0
          go_wp2_with fail
          refine bodyPost_ret (v := .tuple #[.agg #[.int .i64 0, .int .i64 0, .slice none 0 0, .slice none 0 0, .slice none 0 0, .slice none 0 0], .int .i64 er]) ?_ rfl ⟨0, 0, none, 0, 0, none, 0, 0, none, 0, 0, none, 0, 0, er, rfl, set6_below HBU.out (Nat.le_refl _) _ _ _ _ _ _, DecP.bad HDE.out HNE.out⟩
          rw [results_cell_tmp rfl]; go_simp
      · have d1 : (k == 1) = false := by rw [beq_eq_false_iff_ne]; exact k1
        have K1 := Lib.hid k1
        have HOS := Lib.hid (Sa.ofStep_any k w1)
        clear hrk hzz k1
        go_wp2_with fail
        refine HOS.out.mono ?_
        rintro e w2 ⟨rfl, hb2⟩
        have HB2 : Hid (Below w.heap.size w w2) := Lib.hid (HB1.out.trans (hb2.mono HB1.out.size))
        have HBW2 := Lib.hid (HBW1.out.trans (hb2.mono hz1))
        have HD2 := Lib.hid (HX.out w2 HBW2.out)
        have hz2 := hb2.size
        have HRD2 : Hid (RdY w2 B D r.length r) := Lib.hid (HRD1.out.below (hb2.mono hBW1))
        clear hb2 HOS x0 x1 x2 x3 x4 x5
        obtain ⟨x0, x1, x2, x3, x4, x5⟩ := Sa.row6 HD2.out.2
        cases hos : Sa.ofStepB k with
        | true =>
          have HOSB := Lib.hid hos
          have HT1 : Hid (decE (k :: r) = oneE r) := Lib.hid (by rw [HT.out]; unfold decT; rw [if_neg K1.out, if_pos hos])
          have HON := Lib.hid (oneNumber_any HRD2.out HCP.out (by omega) HBR.out (by omega))
          clear hos
          go_wp2_with fail
          refine HON.out.mono ?_
          rintro e w3 ⟨rfl, hb3⟩
          have HB3 : Hid (Below w.heap.size w w3) := Lib.hid (HB2.out.trans (hb3.mono HB2.out.size))
          have HD3 := Lib.hid (HX.out w3 (HBW2.out.trans (hb3.mono HBW2.out.size)))
          clear hb3 HON x0 x1 x2 x3 x4 x5
          obtain ⟨er, HER⟩ : ∃ er, Hid (oneE r = er) := ⟨_, Lib.hid rfl⟩
          obtain ⟨sp, HSP⟩ : ∃ sp, Hid (oneN r = sp) := ⟨_, Lib.hid rfl⟩
          rw [HER.out, HSP.out]
          obtain ⟨U, HU⟩ : ∃ U, Hid (U = w3.setCell ⟨w.heap.size + 1, 1, none⟩ (.int .i64 sp)) := ⟨_, Lib.hid rfl⟩
          have HGU : Hid (w3.grownBy U (some (w.heap.size + 1))) := Lib.hid (by rw [HU.out]; exact grown_set _ _ _ _)
          have HBU : Hid (Below w.heap.size w U) := Lib.hid (HB3.out.grown HGU.out HB3.out.size (fun g hg => by injection hg with hg; omega))
          have HDU : Hid (U.heap[w.heap.size]? = some (.cells #[.int .i64 0, .int .i64 0, .slice none 0 0, .slice none 0 0, .slice none 0 0, .slice none 0 0] 33 (0, 0)) ∧ U.heap[w.heap.size + 1]? = some (.cells #[.int .i64 k, .int .i64 sp, .slice none 0 0, .slice none 0 0, .slice none 0 0, .slice none 0 0] 33 (0, 0))) := Lib.hid ⟨(HGU.out.block w.heap.size (heapE_lt HD3.out.1) (fun e => by injection e with e; omega)).trans HD3.out.1, by rw [HU.out]; exact heap_setCell_same _ _ 1 _ _ _ HD3.out.2⟩
          obtain ⟨x0, x1, x2, x3, x4, x5⟩ := Sa.row6 HD3.out.2
          have p1 := Sa.free_row HD3.out.2 1
          go_upto_region 14 with fail
          change Code.wp _ _ _ _ (w3.setCell ⟨w.heap.size + 1, 1, none⟩ (.int .i64 sp))
          rw [← HU.out]
          clear x0 x1 x2 x3 x4 x5 p1
          by_cases h0 : er = 0
          · subst h0
            obtain ⟨y0, y1, y2, y3, y4, y5⟩ := Sa.row6 HDU.out.1
            have yf := Sa.free_row HDU.out.1
            obtain ⟨x0, x1, x2, x3, x4, x5⟩ := Sa.row6 HDU.out.2
            have q0 := yf 0; have q1 := yf 1; have q2 := yf 2; have q3 := yf 3; have q4 := yf 4; have q5 := yf 5
            clear yf
            go_wp2_with fail
            refine bodyPost_ret (v := .tuple #[.agg #[.int .i64 k, .int .i64 sp, .slice none 0 0, .slice none 0 0, .slice none 0 0, .slice none 0 0], .int .i64 0]) ?_ rfl ⟨k, sp, none, 0, 0, none, 0, 0, none, 0, 0, none, 0, 0, 0, rfl, set6_below HBU.out (Nat.le_refl _) _ _ _ _ _ _, (HT1.out.trans HER.out).symm, fun h => absurd rfl h, fun _ => ?_⟩
            · rw [results_cell_tmp rfl]; go_simp
            · obtain ⟨b1, b2⟩ := back_step HRKB.out HOSB.out K1.out HBR.out HER.out
              rw [HSP.out] at b1 b2
              exact ⟨[], [], [], [], rfl, rfl, rfl, rfl, rdPl_nil, b1, b2, by unfold decN; rw [if_pos HOSB.out]; exact HSP.out.symm⟩
          · have HDE : Hid (decE (k :: r) = er) := Lib.hid (HT1.out.trans HER.out)
            have HNE := Lib.hid h0
            have hne : (er != 0) = true := by rw [bne_iff_ne]; exact h0
            obtain ⟨y0, y1, y2, y3, y4, y5⟩ := Sa.row6 HDU.out.1
            have yf := Sa.free_row HDU.out.1
            obtain ⟨x0, x1, x2, x3, x4, x5⟩ := Sa.row6 HDU.out.2
            have q0 := yf 0; have q1 := yf 1; have q2 := yf 2; have q3 := yf 3; have q4 := yf 4; have q5 := yf 5
            clear yf h0
            go_wp2_with fail
            refine bodyPost_ret (v := .tuple #[.agg #[.int .i64 0, .int .i64 0, .slice none 0 0, .slice none 0 0, .slice none 0 0, .slice none 0 0], .int .i64 er]) ?_ rfl ⟨0, 0, none, 0, 0, none, 0, 0, none, 0, 0, none, 0, 0, er, rfl, set6_below HBU.out (Nat.le_refl _) _ _ _ _ _ _, DecP.bad HDE.out HNE.out⟩
            rw [results_cell_tmp rfl]; go_simp
        | false =>
          have HOSB := Lib.hid hos
          have HT1 : Hid (decE (k :: r) = if r = [] then 0 else 12) := Lib.hid (by rw [HT.out]; unfold decT; rw [if_neg K1.out, hos]; rfl)
          clear hos x0 x1 x2 x3 x4 x5
          by_cases hr0 : r = []
          · subst hr0
            obtain ⟨y0, y1, y2, y3, y4, y5⟩ := Sa.row6 HD2.out.1
            have yf := Sa.free_row HD2.out.1
            obtain ⟨x0, x1, x2, x3, x4, x5⟩ := Sa.row6 HD2.out.2
            have q0 := yf 0; have q1 := yf 1; have q2 := yf 2; have q3 := yf 3; have q4 := yf 4; have q5 := yf 5
            clear yf
            go_wp2_with fail
            refine bodyPost_ret (v := .tuple #[.agg #[.int .i64 k, .int .i64 0, .slice none 0 0, .slice none 0 0, .slice none 0 0, .slice none 0 0], .int .i64 0]) ?_ rfl ⟨k, 0, none, 0, 0, none, 0, 0, none, 0, 0, none, 0, 0, 0, rfl, set6_below HB2.out (Nat.le_refl _) _ _ _ _ _ _, by rw [HT1.out]; rfl, fun h => absurd rfl h, fun _ => ?_⟩
            · rw [results_cell_tmp rfl]; go_simp
            · obtain ⟨b1, b2⟩ := back_bare HRKB.out HOSB.out K1.out
              exact ⟨[], [], [], [], rfl, rfl, rfl, rfl, rdPl_nil, b1, b2, by unfold decN; rw [HOSB.out]; rfl⟩
          · have HDE : Hid (decE (k :: r) = 12) := Lib.hid (by rw [HT1.out, if_neg hr0])
            have HNE : Hid ((12 : Int) ≠ 0) := Lib.hid (by decide)
            have hln3 : 0 < r.length := List.length_pos_iff.2 hr0
            have hln2 : decide ((0 : Int) < (r.length : Int)) = true := decide_eq_true (by have := List.length_pos_iff.2 hr0; omega)
            obtain ⟨y0, y1, y2, y3, y4, y5⟩ := Sa.row6 HD2.out.1
            have yf := Sa.free_row HD2.out.1
            obtain ⟨x0, x1, x2, x3, x4, x5⟩ := Sa.row6 HD2.out.2
            have q0 := yf 0; have q1 := yf 1; have q2 := yf 2; have q3 := yf 3; have q4 := yf 4; have q5 := yf 5
            clear yf hr0
            go_wp2_with fail
            refine bodyPost_ret (v := .tuple #[.agg #[.int .i64 0, .int .i64 0, .slice none 0 0, .slice none 0 0, .slice none 0 0, .slice none 0 0], .int .i64 12]) ?_ rfl ⟨0, 0, none, 0, 0, none, 0, 0, none, 0, 0, none, 0, 0, 12, rfl, set6_below HB2.out (Nat.le_refl _) _ _ _ _ _ _, DecP.bad HDE.out HNE.out⟩
            rw [results_cell_tmp rfl]; go_simp
end Go.Proofs.Ytolgmoaoheflcaa
