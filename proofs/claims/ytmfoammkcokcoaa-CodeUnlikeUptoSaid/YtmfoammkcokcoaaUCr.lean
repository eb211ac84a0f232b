/-
  Catalogues that the program reads.
-/
import Derived.Test.YtmfoammkcokcoaaUCp
namespace Go.Proofs.Ytmfoammkcokcoaa
open Go.RowKit
open ByteP CodeP
set_option linter.unusedVariables false
set_option maxRecDepth 10000
theorem versionG_any {w : World} {rb B : Nat} {s : Sum Int (List Int)} (h : StR w rb B s) (hrb : rb < w.heap.size) :
    Calls Try.prog 84 #[.pointer (some ⟨rb, 0, none⟩)] w fun en w' => ∃ a b c t, en = .returned (.agg #[.int .i64 a, .int .i64 b, .int .i64 c, .string t]) ∧ StR w' rb B (restS (upS verP s)) ∧ w.grownBy w' (some rb) ∧ ∀ x r, upS verP s = .inr (x, r) → x = (a, b, c, t) := by
  cases s with
  | inl e =>
    refine (versionS_any h hrb).mono ?_
    rintro en w' ⟨a, b, c, t, rfl, hs, hg, _⟩
    exact ⟨a, b, c, t, rfl, hs, hg, fun x r h => by cases h⟩
  | inr r =>
    refine (versionV_any h hrb).mono ?_
    rintro en w' ⟨a, b, c, t, rfl, hs, hg, hv⟩
    refine ⟨a, b, c, t, rfl, ?_, hg, fun x r' h => ?_⟩
    · unfold verP; rw [upS_map]; exact hs
    · obtain ⟨⟨p, q, u, v⟩, h1, rfl⟩ := mapP_inr (show mapP verF verV r = _ from h)
      obtain ⟨e1, e2, e3, e4⟩ := hv p q u v r' h1
      unfold verF
      rw [e1, e2, e3, e4]
theorem textG_any {w : World} {rb B : Nat} {s : Sum Int (List Int)} (h : StR w rb B s) :
    Calls Try.prog 70 #[.pointer (some ⟨rb, 0, none⟩)] w fun en w' => ∃ t, en = .returned (.string t) ∧ StR w' rb B (restS (upS strP s)) ∧ w.grownBy w' (some rb) ∧ ∀ x r, upS strP s = .inr (x, r) → t = x := by
  refine (textS_any h).mono ?_
  rintro en w' ⟨t, rfl, hs, hg, hv⟩
  have e : txtS s = upS txt s := by cases s <;> rfl
  rw [e] at hs hv
  refine ⟨t, rfl, by unfold strP; rw [upS_map]; exact hs, hg, fun x r h => ?_⟩
  cases s with
  | inl e => cases h
  | inr r0 =>
    obtain ⟨y, h1, rfl⟩ := mapP_inr (show mapP strOfNums txt r0 = _ from h)
    exact hv y r h1
set_option maxHeartbeats 4000000 in
theorem needS_any {w : World} {rb B : Nat} {s : Sum Int (List Int)} (h : StR w rb B s) (hrb : rb < w.heap.size) :
    Calls Try.prog 86 #[.pointer (some ⟨rb, 0, none⟩)] w fun en w' => ∃ sv A n c, en = .returned (.agg #[.int .i64 sv, .slice A n c]) ∧ StR w' rb B (restS (upS pinP s)) ∧ w.grownBy w' (some rb) ∧ ∀ x r, upS pinP s = .inr (x, r) → pnI w' (fun b => b < w.heap.size) [.int .i64 sv, .slice A n c] x := by
  have HN := Lib.hid (numG_any (h.grown (row := none) (grown_alloc1 w (.cells #[.int .i64 0, .slice none 0 0] 107) none) (fun g hg => by cases hg)))
  have H0 := Lib.hid (heap_new w (.cells #[.int .i64 0, .slice none 0 0] 107))
  clear h
  go_enter Try.func86, Try.ntmps86
  go_wp2_with fail
  refine HN.out.mono ?_
  rintro en v0 ⟨sv, rfl, hs, hg, hval⟩
  have hzv := hg.size
  rw [World.size_alloc] at hzv
  have e0 := (hg.block w.heap.size (by simp) (fun e => by injection e with e; omega)).trans H0.out
  obtain ⟨X, HX⟩ : ∃ X, Hid (X = v0.alloc (.cells #[.int .i64 sv, .slice none 0 0] 107)) := ⟨_, Lib.hid rfl⟩
  have hXs : X.heap.size = v0.heap.size + 1 := by rw [HX.out]; simp
  have hX : X.heap[v0.heap.size]? = some (.cells #[.int .i64 sv, .slice none 0 0] 107 (0, 0)) := by rw [HX.out]; exact heap_new v0 _
  have hY : X.heap[w.heap.size]? = some (.cells #[.int .i64 0, .slice none 0 0] 107 (0, 0)) := by rw [HX.out, Below.heap_alloc _ _ _ (by omega)]; exact e0
  have HSX : Hid (StR X rb B (restS (upS numI s))) := Lib.hid (by rw [HX.out]; exact hs.grown (row := none) (grown_alloc1 v0 _ none) (fun g hg => by cases hg))
  have HGX : Hid (w.grownBy X (some rb)) := Lib.hid (by rw [HX.out]; exact grown_add (grown_add (grown_alloc1 w _ _) hg) (grown_alloc1 v0 _ _))
  obtain ⟨x0, x1, _, _⟩ := row2 hX
  have HXX := Lib.hid hX
  have HYY := Lib.hid hY
  have HV := Lib.hid (spanS_any HSX.out (by omega))
  have HVAL := Lib.hid hval
  have hlx : w.heap.size < X.heap.size ∧ v0.heap.size < X.heap.size ∧ w.heap.size < v0.heap.size := ⟨by omega, by omega, by omega⟩
  clear hX hY e0 hs hg HN hval
  go_upto_region 2 with fail
  change Code.wp _ _ _ _ (v0.alloc (.cells #[.int .i64 sv, .slice none 0 0] 107))
  rw [← HX.out]
  go_wp2_with fail
  refine HV.out.mono ?_
  rintro en v2 ⟨A, n, c, rfl, hs2, hg2, hi2⟩
  have hz2 := hg2.size
  have f1 := (hg2.block v0.heap.size hlx.2.1 (fun e => by injection e with e; omega)).trans HXX.out
  have f0 := (hg2.block w.heap.size hlx.1 (fun e => by injection e with e; omega)).trans HYY.out
  clear x0 x1
  obtain ⟨x0, x1, _, p1⟩ := row2 f1
  obtain ⟨Y, HY⟩ : ∃ Y, Hid (Y = v2.setCell ⟨v0.heap.size, 1, none⟩ (.slice A n c)) := ⟨_, Lib.hid rfl⟩
  have hgY : v2.grownBy Y (some v0.heap.size) := by rw [HY.out]; exact grown_set _ _ _ _
  have g1 : Y.heap[v0.heap.size]? = some (.cells #[.int .i64 sv, .slice A n c] 107 (0, 0)) := by
    rw [HY.out]; exact heap_setCell_same v2 v0.heap.size 1 _ _ (.slice A n c) f1
  have g0 : Y.heap[w.heap.size]? = some (.cells #[.int .i64 0, .slice none 0 0] 107 (0, 0)) := (hgY.block w.heap.size (by omega) (fun e => by injection e with e; omega)).trans f0
  have hgZ : v2.grownBy ((Y.setCell ⟨w.heap.size, 0, none⟩ (.int .i64 sv)).setCell ⟨w.heap.size, 1, none⟩ (.slice A n c)) none ∨ True := .inr trivial
  have HSY : Hid (StR Y rb B (restS (upS pinP s))) := Lib.hid (by
    unfold pinP
    rw [upS_pair]
    exact hs2.grown hgY (fun g hg => by injection hg with hg; omega))
  have HGY : Hid (w.grownBy Y (some rb)) := Lib.hid (grown_new (grown_add HGX.out hg2) hgY (fun g hg => by injection hg with hg; omega))
  have HG01 := Lib.hid (And.intro g0 g1)
  have HIT : Hid (∀ x r, upS pinP s = .inr (x, r) → pnI ((Y.setCell ⟨w.heap.size, 0, none⟩ (.int .i64 sv)).setCell ⟨w.heap.size, 1, none⟩ (.slice A n c)) (fun b => b < w.heap.size) [.int .i64 sv, .slice A n c] x) := Lib.hid (fun x r hx => by
    obtain ⟨⟨r1, h1⟩, h2⟩ := upS_pair_inr (show upS (pairP numI rngP) s = _ from hx)
    obtain rfl := HVAL.out _ _ h1
    have h3 := hi2 _ _ h2
    refine ⟨[.int .i64 x.1], [.slice A n c], rfl, rfl, ?_⟩
    have h4 : rgI Y (fun b => b < X.heap.size) [.slice A n c] x.2 := rg_turns.go h3 (FrM.of_grown hgY (fun g hg => by injection hg with hg; subst hg; exact hlx.2.1)) (fun b hb => .inl hb)
    have h5 := rg_turns.go h4 (FrM.of_grown (grown_set Y w.heap.size 0 (.int .i64 x.1)) (fun g hg => by injection hg with hg; subst hg; exact hlx.1)) (fun b hb => .inl hb)
    exact rg_turns.go h5 (FrM.of_grown (grown_set _ w.heap.size 1 (.slice A n c)) (fun g hg => by injection hg with hg; subst hg; exact hlx.1)) (fun b (hb : b < w.heap.size) => .inl (by show b < X.heap.size; omega)))
  clear hs2 hg2 f0 f1 hgY g0 g1 HV hi2 hgZ
  go_upto_region 3 with fail
  rw [← HY.out]
  clear x0 x1 p1
  obtain ⟨x0, x1, _, _⟩ := row2 HG01.out.2
  obtain ⟨y0, y1, q0, q1⟩ := row2 HG01.out.1
  go_wp2_with fail
  refine bodyPost_ret (v := .agg #[.int .i64 sv, .slice A n c]) ?_ rfl ⟨sv, A, n, c, rfl, ?_, ?_, HIT.out⟩
  · simp [results, Try.results86, go_sem, y0, y1]
  · exact HSY.out.grown (grown_add (grown_set _ _ _ _) (grown_set _ _ _ _)) (fun g hg => by injection hg with hg; omega)
  · exact grown_new HGY.out (grown_add (grown_set _ _ _ _) (grown_set _ _ _ _)) (fun g hg => by injection hg with hg; omega)
theorem info_getNeeds_any : (Try.prog.info? 107).map (fun i => (i.zero, i.size, i.bytes)) = some (some (.agg #[.int .i64 0, .slice none 0 0]), 2, 32) := by kernel_rfl
set_option maxHeartbeats 4000000 in
theorem getNeeds_any {w : World} {rb B : Nat} {s : Sum Int (List Int)} (h : StR w rb B s) (hrb : rb < w.heap.size) :
    Calls Try.prog 85 #[.pointer (some ⟨rb, 0, none⟩), .func (.func 86) #[.pointer (some ⟨rb, 0, none⟩)] #[]] w fun en w' => ∃ A n c, en = .returned (.slice A n c) ∧ StR w' rb B (restS (upS (lsL pinP) s)) ∧ w.grownBy w' (some rb) ∧ ∀ x r, upS (lsL pinP) s = .inr (x, r) → SlI 2 pnI w' (fun b => b < w.heap.size) [.slice A n c] x := by
  cases s with
  | inl e =>
    obtain ⟨he, r, hr⟩ := h
    have HC := Lib.hid (count_err hr (by omega))
    have HE := Lib.hid he
    clear hr he
    go_enter Try.func85, Try.ntmps85
    go_wp2_with fail
    refine HC.out.mono ?_
    rintro en w1 ⟨rfl, h1, hg1⟩
    have HF : Hid (StR w1 rb B (.inl e) ∧ w.grownBy w1 (some rb)) := Lib.hid ⟨⟨HE.out, r, h1⟩, hg1⟩
    clear h1 hg1 HC
    go_wp2
    refine wp_loop_rounds 1 ?_
    rw [rounds_succ]
    go_wp2
    go_ret
    exact ⟨none, 0, 0, rfl, HF.out.1, HF.out.2, fun x r hx => by cases hx⟩
  | inr rest =>
    obtain ⟨hr, hb, hl⟩ := h
    have HC := Lib.hid (count_any hr hb hl)
    have HBY := Lib.hid hb
    have HL := Lib.hid hl
    clear hr hb hl
    go_enter Try.func85, Try.ntmps85
    go_wp2_with fail
    refine HC.out.mono ?_
    rintro en w1 ⟨n, rfl, hn⟩
    cases hres : cnt rest with
    | inl e =>
      rw [hres] at hn
      obtain ⟨hg, rfl, r, hrd⟩ := hn
      have HE : Hid (upS (lsL pinP) (.inr rest) = .inl e) := Lib.hid (by show lsL pinP rest = _; unfold lsL; rw [hres])
      have HF : Hid (StR w1 rb B (.inl e) ∧ w.grownBy w1 (some rb)) := Lib.hid ⟨⟨cnt_err hres, r, hrd⟩, hg⟩
      clear hg hrd hres HC
      go_wp2
      refine wp_loop_rounds 1 ?_
      rw [rounds_succ]
      go_wp2
      go_ret
      rw [HE.out]
      exact ⟨none, 0, 0, rfl, HF.out.1, HF.out.2, fun x r hx => by cases hx⟩
    | inr p =>
      obtain ⟨m, r0⟩ := p
      rw [hres] at hn
      obtain ⟨hg, rfl, hrd⟩ := hn
      obtain ⟨hnum, hm⟩ := cnt_ok hres
      have hrl1 := rest_len HBY.out hnum
      have hLL := HL.out
      have HST : Hid (StR w1 rb B (.inr r0)) := Lib.hid ⟨hrd, num_bytes HBY.out hnum, by omega⟩
      have HB1 : Hid (w.grownBy w1 (some rb)) := Lib.hid hg
      have HLS : Hid (upS (lsL pinP) (.inr rest) = rdL pinP m r0) := Lib.hid (by show lsL pinP rest = _; unfold lsL; rw [hres])
      have hz1 := hg.size
      have hmm : m ≤ 1000000000 := by omega
      clear hg hrd hres hnum hLL hrl1 HC hm
      go_wp2
      go_loopw [5, 6, 9] (fun v5 _ v9 wr => ∃ (j : Nat) (l : List _) (r : List Int) (A : Option Addr) (c : Nat), j ≤ m ∧ v9 = .int .i64 (j : Int) ∧ v5 = .slice A j c ∧ Hid (OwnG 107 2 pnI wr w.heap.size (.slice A j c) l) ∧ Hid (l.length = j) ∧ Hid (StR wr rb B (.inr r)) ∧ Hid (contL l (rdL pinP (m - j) r) = rdL pinP m r0) ∧ Hid (w.grownBy wr (some rb)) ∧ rb < wr.heap.size) (fun _ _ v _ => m - (intOf v).toNat)
      case atStart => exact ⟨0, [], r0, none, 0, Nat.zero_le _, rfl, rfl, Lib.hid (OwnG.nil_ _ _ _ _ _), Lib.hid rfl, HST, Lib.hid (by rw [contL_nil]; rfl), HB1, by omega⟩
      case round =>
        obtain ⟨j, l, r, A, c, hj, rfl, rfl, HO, HLE, HR, HN, HB, hlt⟩ := hrel
        by_cases hjm : j < m
        · have hd : decide ((j : Int) < (m : Int)) = true := by simp; omega
          have hadd : IntKind.i64.wrap ((j : Int) + 1) = ((j + 1 : Nat) : Int) := by rw [IntWalk.i64_in _ (by omega)]; omega
          have HNG := Lib.hid (needS_any HR.out hlt)
          go_wp2_with fail
          refine HNG.out.mono ?_
          rintro en w2 ⟨sv, A3, n3, c4, rfl, hs, hg, hval⟩
          clear HNG
          have e0 : upS pinP (.inr r) = pinP r := rfl
          rw [e0] at hs hval
          cases hres : pinP r with
          | inl e =>
            rw [hres] at hs
            obtain ⟨he, r2, hrd⟩ := hs
            have hne : (e != 0) = true := by rcases he with h | h <;> subst h <;> rfl
            have HF : Hid (rdL pinP m r0 = .inl e) := Lib.hid (by
              rw [← HN.out, show m - j = (m - j - 1) + 1 by omega, rdL_err hres]; rfl)
            have HF2 : Hid (StR (w2.alloc (.cells #[.int .i64 sv, .slice A3 n3 c4] 107)) rb B (.inl e) ∧ w.grownBy (w2.alloc (.cells #[.int .i64 sv, .slice A3 n3 c4] 107)) (some rb)) := Lib.hid ⟨⟨he, r2, (hrd.alloc _)⟩, grown_add (grown_add HB.out hg) (grown_alloc1 w2 _ _)⟩
            obtain ⟨A', c', hrow, _, _⟩ := ((hrd.alloc _) : Rdr (w2.alloc (.cells #[.int .i64 sv, .slice A3 n3 c4] 107)) rb B r2 e).row
            obtain ⟨hc0, hc1, _, _⟩ := row2 hrow
            clear hg hrd hres hrow he hval e0
            go_wp2
            go_ret
            rw [HLS.out, HF.out]
            exact ⟨none, 0, 0, rfl, HF2.out.1, HF2.out.2, fun x r hx => by cases hx⟩
          | inr p =>
            obtain ⟨x, r2⟩ := p
            rw [hres] at hs
            have HIT := Lib.hid (hval x r2 hres)
            have HS2 : Hid (StR w2 rb B (.inr r2)) := Lib.hid hs
            obtain ⟨hrd, _, _⟩ := hs
            have HB2 : Hid (w.grownBy w2 (some rb)) := Lib.hid (grown_add HB.out hg)
            have hzz := HB2.out.size
            have hzr := HB.out.size
            have HO2 : Hid (OwnG 107 2 pnI w2 w.heap.size (.slice A j c) l) := Lib.hid (HO.out.turn pn_turns hg (fun g hg' => by injection hg' with hg'; omega))
            have HN2 : Hid (contL (l ++ [x]) (rdL pinP (m - (j + 1)) r2) = rdL pinP m r0) := Lib.hid (by
              rw [← HN.out, show m - j = (m - (j + 1)) + 1 by omega, rdL_step hres, contL_contL])
            have HAP : Hid (pnI ((w2.alloc (.cells #[.int .i64 sv, .slice A3 n3 c4] 107)).alloc (.cells #[.int .i64 sv, .slice A3 n3 c4] 107)) (Ap w.heap.size (.slice A j c)) [.int .i64 sv, .slice A3 n3 c4] x) := Lib.hid (pn_turns.go HIT.out (FrM.of_grown (row := none) (grown_add (grown_alloc1 w2 _ _) (grown_alloc1 _ _ _)) (fun g hg => by cases hg)) (fun b hb => .inl (by
              rcases hb with hb | hb
              · exact (HO.out.ge b hb).2
              · omega)))
            have hlt2 := hrd.here
            have hb1 := heap_new (w2.alloc (.cells #[.int .i64 sv, .slice A3 n3 c4] 107)) (.cells #[.int .i64 sv, .slice A3 n3 c4] 107)
            have hsz : (w2.alloc (.cells #[.int .i64 sv, .slice A3 n3 c4] 107)).heap.size = w2.heap.size + 1 := by simp
            rw [hsz] at hb1
            have HD := Lib.hid (cells_of hb1)
            have hwe : ((w2.alloc (.cells #[.int .i64 sv, .slice A3 n3 c4] 107)).alloc (.cells #[.int .i64 sv, .slice A3 n3 c4] 107)).heap.size = w2.heap.size + 2 := by simp
            obtain ⟨A', c', hrow, _, _⟩ := ((hrd.alloc _) : Rdr (w2.alloc (.cells #[.int .i64 sv, .slice A3 n3 c4] 107)) rb B r2 0).row
            obtain ⟨hc0, hc1, _, _⟩ := row2 hrow
            have HLN := HLE.out
            clear hg hrd hres hrow hb1 hval e0 HIT
            go_wp2_with (at_builtin; refine wplG_app pn_turns Try.underlying96 info_getNeeds_any rfl (by decide) (by decide) rfl (.tmp 18) (.tmp 20) rfl w.heap.size (.slice A j c) l rfl ((HO2.out.alloc pn_turns _).alloc pn_turns _) (w2.heap.size + 1) [.int .i64 sv, .slice A3 n3 c4] x rfl rfl HD.out (by intro u hu; simp at hu; (first | (rcases hu with rfl | rfl <;> rfl) | (subst hu; rfl))) HAP.out (by omega) (by omega) ?_; intro g c3 w3 hown3 hgr3)
            have HO3 : Hid (OwnG 107 2 pnI w3 w.heap.size (.slice (some ⟨g, 0, none⟩) (l.length + 1) c3) (l ++ [x])) := Lib.hid hown3
            have HR3 : Hid (StR w3 rb B (.inr r2)) := Lib.hid (((HS2.out.grown (row := none) (grown_alloc1 _ _ none) (fun g hg => by cases hg)).grown (row := none) (grown_alloc1 _ _ none) (fun g hg => by cases hg)).grown hgr3 (fun g hg => by have := (HO2.out.ge g hg).1; omega))
            have HB3 : Hid (w.grownBy w3 (some rb)) := Lib.hid (grown_new (grown_add (grown_add HB2.out (grown_alloc1 w2 _ _)) (grown_alloc1 _ _ _)) hgr3 (fun g hg => (HO2.out.ge g hg).1))
            have hz3 := hgr3.size
            have hlt3 : rb < w3.heap.size := by omega
            rw [HLN] at HO3
            clear hown3 hgr3 hz3
            go_roundw
            case rel => exact ⟨j + 1, l ++ [x], r2, some ⟨g, 0, none⟩, c3, by omega, rfl, rfl, HO3, Lib.hid (by rw [List.length_append, HLE.out]; rfl), HR3, HN2, HB3, hlt3⟩
            case measure => simp [intOf]; omega
        · have hd : decide ((j : Int) < (m : Int)) = false := by simp; omega
          obtain rfl : j = m := by omega
          have HF : Hid (rdL pinP j r0 = .inr (l, r)) := Lib.hid (by
            rw [← HN.out, Nat.sub_self]
            simp [rdL, contL])
          go_wp2
          go_ret
          rw [HLS.out, HF.out]
          exact ⟨A, _, c, rfl, HR.out, HB.out, fun x r hx => by
            injection hx with hx
            injection hx with e1 e2
            subst e1
            exact HO.out.item pn_turns (fun b hb => .inl hb)⟩
theorem set6_grown (w : World) (g : Nat) (a b c d e f : Value) : w.grownBy ((((((w.setCell ⟨g, 0, none⟩ a).setCell ⟨g, 1, none⟩ b).setCell ⟨g, 2, none⟩ c).setCell ⟨g, 3, none⟩ d).setCell ⟨g, 4, none⟩ e).setCell ⟨g, 5, none⟩ f) (some g) :=
  grown_add (grown_add (grown_add (grown_add (grown_add (grown_set w g 0 a) (grown_set _ g 1 b)) (grown_set _ g 2 c)) (grown_set _ g 3 d)) (grown_set _ g 4 e)) (grown_set _ g 5 f)
theorem r6_cells {w : World} {g : Nat} {a b c d e f : Value} {T : TypeId} (h : w.heap[g]? = some (.cells #[a, b, c, d, e, f] T (0, 0))) : w.cell? ⟨g, 0, none⟩ = some a ∧ w.cell? ⟨g, 1, none⟩ = some b ∧ w.cell? ⟨g, 2, none⟩ = some c ∧ w.cell? ⟨g, 3, none⟩ = some d ∧ w.cell? ⟨g, 4, none⟩ = some e ∧ w.cell? ⟨g, 5, none⟩ = some f ∧ (∀ i, w.frozen? ⟨g, i, none⟩ = false) :=
  ⟨by simp [World.cell?, h], by simp [World.cell?, h], by simp [World.cell?, h], by simp [World.cell?, h], by simp [World.cell?, h], by simp [World.cell?, h], fun i => by simp [World.frozen?, h]⟩
set_option maxHeartbeats 8000000 in
theorem releaseS_any {w : World} {rb B : Nat} {s : Sum Int (List Int)} (h : StR w rb B s) (hrb : rb < w.heap.size) :
    Calls Try.prog 72 #[.pointer (some ⟨rb, 0, none⟩)] w fun en w' => ∃ a b c t lv A n c4, en = .returned (.agg #[.int .i64 a, .int .i64 b, .int .i64 c, .string t, .int .i64 lv, .slice A n c4]) ∧ StR w' rb B (restS (upS relP s)) ∧ w.grownBy w' (some rb) ∧ ∀ x r, upS relP s = .inr (x, r) → reI w' (fun b => b < w.heap.size) [.int .i64 a, .int .i64 b, .int .i64 c, .string t, .int .i64 lv, .slice A n c4] x := by
  have HN := Lib.hid (versionG_any (h.grown (row := none) (grown_alloc1 w (.cells #[.int .i64 0, .int .i64 0, .int .i64 0, .string ⟨#[]⟩, .int .i64 0, .slice none 0 0] 98) none) (fun g hg => by cases hg)) (by simp; omega))
  have H0 := Lib.hid (heap_new w (.cells #[.int .i64 0, .int .i64 0, .int .i64 0, .string ⟨#[]⟩, .int .i64 0, .slice none 0 0] 98))
  clear h
  go_enter Try.func72, Try.ntmps72
  go_wp2_with fail
  refine HN.out.mono ?_
  rintro en v0 ⟨a, b, c, t, rfl, hs, hg, hval⟩
  have hzv := hg.size
  rw [World.size_alloc] at hzv
  have e0 := (hg.block w.heap.size (by simp) (fun e => by injection e with e; omega)).trans H0.out
  obtain ⟨X, HX⟩ : ∃ X, Hid (X = v0.alloc (.cells #[.int .i64 a, .int .i64 b, .int .i64 c, .string t, .int .i64 0, .slice none 0 0] 98)) := ⟨_, Lib.hid rfl⟩
  have hXs : X.heap.size = v0.heap.size + 1 := by rw [HX.out]; simp
  have hX : X.heap[v0.heap.size]? = some (.cells #[.int .i64 a, .int .i64 b, .int .i64 c, .string t, .int .i64 0, .slice none 0 0] 98 (0, 0)) := by rw [HX.out]; exact heap_new v0 _
  have hY : X.heap[w.heap.size]? = some (.cells #[.int .i64 0, .int .i64 0, .int .i64 0, .string ⟨#[]⟩, .int .i64 0, .slice none 0 0] 98 (0, 0)) := by rw [HX.out, Below.heap_alloc _ _ _ (by omega)]; exact e0
  have HSX : Hid (StR X rb B (restS (upS verP s))) := Lib.hid (by rw [HX.out]; exact hs.grown (row := none) (grown_alloc1 v0 _ none) (fun g hg => by cases hg))
  have HGX : Hid (w.grownBy X (some rb)) := Lib.hid (by rw [HX.out]; exact grown_add (grown_add (grown_alloc1 w _ _) hg) (grown_alloc1 v0 _ _))
  obtain ⟨x0, x1, x2, x3, x4, x5, xf⟩ := r6_cells hX
  have HXX := Lib.hid hX
  have HYY := Lib.hid hY
  have HV := Lib.hid (numG_any HSX.out)
  have HVAL := Lib.hid hval
  have hlx : w.heap.size < X.heap.size ∧ v0.heap.size < X.heap.size ∧ w.heap.size < v0.heap.size := ⟨by omega, by omega, by omega⟩
  clear hX hY e0 hs hg HN hval xf hXs
  go_upto_region 2 with fail
  change Code.wp _ _ _ _ (v0.alloc (.cells #[.int .i64 a, .int .i64 b, .int .i64 c, .string t, .int .i64 0, .slice none 0 0] 98))
  rw [← HX.out]
  go_wp2_with fail
  refine HV.out.mono ?_
  rintro en v1 ⟨lv, rfl, hs1, hg1, hval1⟩
  have hz1 := hg1.size
  have f1 := (hg1.block v0.heap.size hlx.2.1 (fun e => by injection e with e; omega)).trans HXX.out
  have f0 := (hg1.block w.heap.size hlx.1 (fun e => by injection e with e; omega)).trans HYY.out
  clear x0 x1 x2 x3 x4 x5
  obtain ⟨x0, x1, x2, x3, x4, x5, xf⟩ := r6_cells f1
  have p4 := xf 4
  obtain ⟨Y1, HY1⟩ : ∃ Y, Hid (Y = v1.setCell ⟨v0.heap.size, 4, none⟩ (.int .i64 lv)) := ⟨_, Lib.hid rfl⟩
  have hgY1 : v1.grownBy Y1 (some v0.heap.size) := by rw [HY1.out]; exact grown_set _ _ _ _
  have g1 : Y1.heap[v0.heap.size]? = some (.cells #[.int .i64 a, .int .i64 b, .int .i64 c, .string t, .int .i64 lv, .slice none 0 0] 98 (0, 0)) := by
    rw [HY1.out]; exact heap_setCell_same v1 v0.heap.size 4 _ _ (.int .i64 lv) f1
  have g0 : Y1.heap[w.heap.size]? = some (.cells #[.int .i64 0, .int .i64 0, .int .i64 0, .string ⟨#[]⟩, .int .i64 0, .slice none 0 0] 98 (0, 0)) := (hgY1.block w.heap.size (by omega) (fun e => by injection e with e; omega)).trans f0
  have HSY1 : Hid (StR Y1 rb B (restS (upS numI (restS (upS verP s))))) := Lib.hid (hs1.grown hgY1 (fun g hg => by injection hg with hg; omega))
  have HGY1 : Hid (w.grownBy Y1 (some rb)) := Lib.hid (grown_new (grown_add HGX.out hg1) hgY1 (fun g hg => by injection hg with hg; omega))
  have HG01 := Lib.hid (And.intro g0 g1)
  have hzy1 := hgY1.size
  have HVAL1 := Lib.hid hval1
  have HV2 := Lib.hid (getNeeds_any HSY1.out (by omega))
  have hly : w.heap.size < Y1.heap.size ∧ v0.heap.size < Y1.heap.size := ⟨by omega, by omega⟩
  clear hs1 hg1 f0 f1 hval1 xf hgY1 g0 g1 HV hz1 hzy1
  go_upto_region 3 with fail
  rw [← HY1.out]
  clear x0 x1 x2 x3 x4 x5 p4
  go_wp2_with fail
  refine HV2.out.mono ?_
  rintro en v2 ⟨A, n, c4, rfl, hs2, hg2, hi2⟩
  have hz2 := hg2.size
  have f1 := (hg2.block v0.heap.size hly.2 (fun e => by injection e with e; omega)).trans HG01.out.2
  have f0 := (hg2.block w.heap.size hly.1 (fun e => by injection e with e; omega)).trans HG01.out.1
  obtain ⟨x0, x1, x2, x3, x4, x5, xf⟩ := r6_cells f1
  have p5 := xf 5
  obtain ⟨Y, HY⟩ : ∃ Y, Hid (Y = v2.setCell ⟨v0.heap.size, 5, none⟩ (.slice A n c4)) := ⟨_, Lib.hid rfl⟩
  have hgY : v2.grownBy Y (some v0.heap.size) := by rw [HY.out]; exact grown_set _ _ _ _
  have g1 : Y.heap[v0.heap.size]? = some (.cells #[.int .i64 a, .int .i64 b, .int .i64 c, .string t, .int .i64 lv, .slice A n c4] 98 (0, 0)) := by
    rw [HY.out]; exact heap_setCell_same v2 v0.heap.size 5 _ _ (.slice A n c4) f1
  have g0 : Y.heap[w.heap.size]? = some (.cells #[.int .i64 0, .int .i64 0, .int .i64 0, .string ⟨#[]⟩, .int .i64 0, .slice none 0 0] 98 (0, 0)) := (hgY.block w.heap.size (by omega) (fun e => by injection e with e; omega)).trans f0
  have HSY : Hid (StR Y rb B (restS (upS relP s))) := Lib.hid (by
    unfold relP
    rw [upS_pair, upS_pair]
    exact hs2.grown hgY (fun g hg => by injection hg with hg; omega))
  have HGY : Hid (w.grownBy Y (some rb)) := Lib.hid (grown_new (grown_add HGY1.out hg2) hgY (fun g hg => by injection hg with hg; omega))
  have HG02 := Lib.hid (And.intro g0 g1)
  have HGS := Lib.hid (set6_grown Y w.heap.size (.int .i64 a) (.int .i64 b) (.int .i64 c) (.string t) (.int .i64 lv) (.slice A n c4))
  have HIT : Hid (∀ w' : World, Y.grownBy w' (some w.heap.size) → ∀ x r, upS relP s = .inr (x, r) → reI w' (fun b => b < w.heap.size) [.int .i64 a, .int .i64 b, .int .i64 c, .string t, .int .i64 lv, .slice A n c4] x) := Lib.hid (fun w' hgw x r hx => by
    obtain ⟨⟨r1, h1⟩, h2⟩ := upS_pair_inr (show upS (pairP verP (pairP numI (lsL pinP))) s = _ from hx)
    obtain ⟨⟨r2, h3⟩, h4⟩ := upS_pair_inr h2
    have k1 := HVAL.out _ _ h1
    have k2 := HVAL1.out _ _ h3
    have h5 := hi2 _ _ h4
    have h6 : psI Y (fun b => b < Y1.heap.size) [.slice A n c4] x.2.2 := ps_turns.go h5 (FrM.of_grown hgY (fun g hg => by injection hg with hg; subst hg; exact hly.2)) (fun b hb => .inl hb)
    have h7 : psI w' (fun b => b < w.heap.size) [.slice A n c4] x.2.2 := ps_turns.go h6 (FrM.of_grown hgw (fun g hg => by injection hg with hg; subst hg; exact hly.1)) (fun b (hb : b < w.heap.size) => .inl (by show b < Y1.heap.size; omega))
    refine ⟨[.int .i64 a, .int .i64 b, .int .i64 c, .string t], [.int .i64 lv, .slice A n c4], rfl, ?_, [.int .i64 lv], [.slice A n c4], rfl, ?_, h7⟩
    · show _ = _
      rw [k1]
    · show _ = _
      rw [k2])
  clear hs2 hg2 f0 f1 hgY g0 g1 HV2 hi2 xf hz2
  go_upto_region 4 with fail
  rw [← HY.out]
  clear x0 x1 x2 x3 x4 x5 p5
  obtain ⟨x0, x1, x2, x3, x4, x5, xf⟩ := r6_cells HG02.out.2
  obtain ⟨y0, y1, y2, y3, y4, y5, yf⟩ := r6_cells HG02.out.1
  have q0 := yf 0
  have q1 := yf 1
  have q2 := yf 2
  have q3 := yf 3
  have q4 := yf 4
  have q5 := yf 5
  clear xf yf
  go_wp2_with fail
  refine bodyPost_ret (v := .agg #[.int .i64 a, .int .i64 b, .int .i64 c, .string t, .int .i64 lv, .slice A n c4]) ?_ rfl ⟨a, b, c, t, lv, A, n, c4, rfl, ?_, ?_, HIT.out _ HGS.out⟩
  · simp [results, Try.results72, go_sem, y0, y1, y2, y3, y4, y5]
  · exact HSY.out.grown HGS.out (fun g hg => by injection hg with hg; omega)
  · exact grown_new HGY.out HGS.out (fun g hg => by injection hg with hg; omega)
theorem info_getReleases_any : (Try.prog.info? 98).map (fun i => (i.zero, i.size, i.bytes)) = some (some (.agg #[.int .i64 0, .int .i64 0, .int .i64 0, .string ⟨#[]⟩, .int .i64 0, .slice none 0 0]), 6, 72) := by kernel_rfl
set_option maxHeartbeats 4000000 in
theorem getReleases_any {w : World} {rb B : Nat} {s : Sum Int (List Int)} (h : StR w rb B s) (hrb : rb < w.heap.size) :
    Calls Try.prog 71 #[.pointer (some ⟨rb, 0, none⟩), .func (.func 72) #[.pointer (some ⟨rb, 0, none⟩)] #[]] w fun en w' => ∃ A n c, en = .returned (.slice A n c) ∧ StR w' rb B (restS (upS (lsL relP) s)) ∧ w.grownBy w' (some rb) ∧ ∀ x r, upS (lsL relP) s = .inr (x, r) → SlI 6 reI w' (fun b => b < w.heap.size) [.slice A n c] x := by
  cases s with
  | inl e =>
    obtain ⟨he, r, hr⟩ := h
    have HC := Lib.hid (count_err hr (by omega))
    have HE := Lib.hid he
    clear hr he
    go_enter Try.func71, Try.ntmps71
    go_wp2_with fail
    refine HC.out.mono ?_
    rintro en w1 ⟨rfl, h1, hg1⟩
    have HF : Hid (StR w1 rb B (.inl e) ∧ w.grownBy w1 (some rb)) := Lib.hid ⟨⟨HE.out, r, h1⟩, hg1⟩
    clear h1 hg1 HC
    go_wp2
    refine wp_loop_rounds 1 ?_
    rw [rounds_succ]
    go_wp2
    go_ret
    exact ⟨none, 0, 0, rfl, HF.out.1, HF.out.2, fun x r hx => by cases hx⟩
  | inr rest =>
    obtain ⟨hr, hb, hl⟩ := h
    have HC := Lib.hid (count_any hr hb hl)
    have HBY := Lib.hid hb
    have HL := Lib.hid hl
    clear hr hb hl
    go_enter Try.func71, Try.ntmps71
    go_wp2_with fail
    refine HC.out.mono ?_
    rintro en w1 ⟨n, rfl, hn⟩
    cases hres : cnt rest with
    | inl e =>
      rw [hres] at hn
      obtain ⟨hg, rfl, r, hrd⟩ := hn
      have HE : Hid (upS (lsL relP) (.inr rest) = .inl e) := Lib.hid (by show lsL relP rest = _; unfold lsL; rw [hres])
      have HF : Hid (StR w1 rb B (.inl e) ∧ w.grownBy w1 (some rb)) := Lib.hid ⟨⟨cnt_err hres, r, hrd⟩, hg⟩
      clear hg hrd hres HC
      go_wp2
      refine wp_loop_rounds 1 ?_
      rw [rounds_succ]
      go_wp2
      go_ret
      rw [HE.out]
      exact ⟨none, 0, 0, rfl, HF.out.1, HF.out.2, fun x r hx => by cases hx⟩
    | inr p =>
      obtain ⟨m, r0⟩ := p
      rw [hres] at hn
      obtain ⟨hg, rfl, hrd⟩ := hn
      obtain ⟨hnum, hm⟩ := cnt_ok hres
      have hrl1 := rest_len HBY.out hnum
      have hLL := HL.out
      have HST : Hid (StR w1 rb B (.inr r0)) := Lib.hid ⟨hrd, num_bytes HBY.out hnum, by omega⟩
      have HB1 : Hid (w.grownBy w1 (some rb)) := Lib.hid hg
      have HLS : Hid (upS (lsL relP) (.inr rest) = rdL relP m r0) := Lib.hid (by show lsL relP rest = _; unfold lsL; rw [hres])
      have hz1 := hg.size
      have hmm : m ≤ 1000000000 := by omega
      clear hg hrd hres hnum hLL hrl1 HC hm
      go_wp2
      go_loopw [5, 6, 9] (fun v5 _ v9 wr => ∃ (j : Nat) (l : List _) (r : List Int) (A : Option Addr) (c : Nat), j ≤ m ∧ v9 = .int .i64 (j : Int) ∧ v5 = .slice A j c ∧ Hid (OwnG 98 6 reI wr w.heap.size (.slice A j c) l) ∧ Hid (l.length = j) ∧ Hid (StR wr rb B (.inr r)) ∧ Hid (contL l (rdL relP (m - j) r) = rdL relP m r0) ∧ Hid (w.grownBy wr (some rb)) ∧ rb < wr.heap.size) (fun _ _ v _ => m - (intOf v).toNat)
      case atStart => exact ⟨0, [], r0, none, 0, Nat.zero_le _, rfl, rfl, Lib.hid (OwnG.nil_ _ _ _ _ _), Lib.hid rfl, HST, Lib.hid (by rw [contL_nil]; rfl), HB1, by omega⟩
      case round =>
        obtain ⟨j, l, r, A, c, hj, rfl, rfl, HO, HLE, HR, HN, HB, hlt⟩ := hrel
        by_cases hjm : j < m
        · have hd : decide ((j : Int) < (m : Int)) = true := by simp; omega
          have hadd : IntKind.i64.wrap ((j : Int) + 1) = ((j + 1 : Nat) : Int) := by rw [IntWalk.i64_in _ (by omega)]; omega
          have HNG := Lib.hid (releaseS_any HR.out hlt)
          go_wp2_with fail
          refine HNG.out.mono ?_
          rintro en w2 ⟨va, vb, vc, vt, vl, A3, n3, c4, rfl, hs, hg, hval⟩
          clear HNG
          have e0 : upS relP (.inr r) = relP r := rfl
          rw [e0] at hs hval
          cases hres : relP r with
          | inl e =>
            rw [hres] at hs
            obtain ⟨he, r2, hrd⟩ := hs
            have hne : (e != 0) = true := by rcases he with h | h <;> subst h <;> rfl
            have HF : Hid (rdL relP m r0 = .inl e) := Lib.hid (by
              rw [← HN.out, show m - j = (m - j - 1) + 1 by omega, rdL_err hres]; rfl)
            have HF2 : Hid (StR (w2.alloc (.cells #[.int .i64 va, .int .i64 vb, .int .i64 vc, .string vt, .int .i64 vl, .slice A3 n3 c4] 98)) rb B (.inl e) ∧ w.grownBy (w2.alloc (.cells #[.int .i64 va, .int .i64 vb, .int .i64 vc, .string vt, .int .i64 vl, .slice A3 n3 c4] 98)) (some rb)) := Lib.hid ⟨⟨he, r2, (hrd.alloc _)⟩, grown_add (grown_add HB.out hg) (grown_alloc1 w2 _ _)⟩
            obtain ⟨A', c', hrow, _, _⟩ := ((hrd.alloc _) : Rdr (w2.alloc (.cells #[.int .i64 va, .int .i64 vb, .int .i64 vc, .string vt, .int .i64 vl, .slice A3 n3 c4] 98)) rb B r2 e).row
            obtain ⟨hc0, hc1, _, _⟩ := row2 hrow
            clear hg hrd hres hrow he hval e0
            go_wp2
            go_ret
            rw [HLS.out, HF.out]
            exact ⟨none, 0, 0, rfl, HF2.out.1, HF2.out.2, fun x r hx => by cases hx⟩
          | inr p =>
            obtain ⟨x, r2⟩ := p
            rw [hres] at hs
            have HIT := Lib.hid (hval x r2 hres)
            have HS2 : Hid (StR w2 rb B (.inr r2)) := Lib.hid hs
            obtain ⟨hrd, _, _⟩ := hs
            have HB2 : Hid (w.grownBy w2 (some rb)) := Lib.hid (grown_add HB.out hg)
            have hzz := HB2.out.size
            have hzr := HB.out.size
            have HO2 : Hid (OwnG 98 6 reI w2 w.heap.size (.slice A j c) l) := Lib.hid (HO.out.turn re_turns hg (fun g hg' => by injection hg' with hg'; omega))
            have HN2 : Hid (contL (l ++ [x]) (rdL relP (m - (j + 1)) r2) = rdL relP m r0) := Lib.hid (by
              rw [← HN.out, show m - j = (m - (j + 1)) + 1 by omega, rdL_step hres, contL_contL])
            have HAP : Hid (reI ((w2.alloc (.cells #[.int .i64 va, .int .i64 vb, .int .i64 vc, .string vt, .int .i64 vl, .slice A3 n3 c4] 98)).alloc (.cells #[.int .i64 va, .int .i64 vb, .int .i64 vc, .string vt, .int .i64 vl, .slice A3 n3 c4] 98)) (Ap w.heap.size (.slice A j c)) [.int .i64 va, .int .i64 vb, .int .i64 vc, .string vt, .int .i64 vl, .slice A3 n3 c4] x) := Lib.hid (re_turns.go HIT.out (FrM.of_grown (row := none) (grown_add (grown_alloc1 w2 _ _) (grown_alloc1 _ _ _)) (fun g hg => by cases hg)) (fun b hb => .inl (by
              rcases hb with hb | hb
              · exact (HO.out.ge b hb).2
              · omega)))
            have hlt2 := hrd.here
            have hb1 := heap_new (w2.alloc (.cells #[.int .i64 va, .int .i64 vb, .int .i64 vc, .string vt, .int .i64 vl, .slice A3 n3 c4] 98)) (.cells #[.int .i64 va, .int .i64 vb, .int .i64 vc, .string vt, .int .i64 vl, .slice A3 n3 c4] 98)
            have hsz : (w2.alloc (.cells #[.int .i64 va, .int .i64 vb, .int .i64 vc, .string vt, .int .i64 vl, .slice A3 n3 c4] 98)).heap.size = w2.heap.size + 1 := by simp
            rw [hsz] at hb1
            have HD := Lib.hid (cells_of hb1)
            have hwe : ((w2.alloc (.cells #[.int .i64 va, .int .i64 vb, .int .i64 vc, .string vt, .int .i64 vl, .slice A3 n3 c4] 98)).alloc (.cells #[.int .i64 va, .int .i64 vb, .int .i64 vc, .string vt, .int .i64 vl, .slice A3 n3 c4] 98)).heap.size = w2.heap.size + 2 := by simp
            obtain ⟨A', c', hrow, _, _⟩ := ((hrd.alloc _) : Rdr (w2.alloc (.cells #[.int .i64 va, .int .i64 vb, .int .i64 vc, .string vt, .int .i64 vl, .slice A3 n3 c4] 98)) rb B r2 0).row
            obtain ⟨hc0, hc1, _, _⟩ := row2 hrow
            have HLN := HLE.out
            clear hg hrd hres hrow hb1 hval e0 HIT
            go_wp2_with (at_builtin; refine wplG_app re_turns Try.underlying88 info_getReleases_any rfl (by decide) (by decide) rfl (.tmp 18) (.tmp 20) rfl w.heap.size (.slice A j c) l rfl ((HO2.out.alloc re_turns _).alloc re_turns _) (w2.heap.size + 1) [.int .i64 va, .int .i64 vb, .int .i64 vc, .string vt, .int .i64 vl, .slice A3 n3 c4] x rfl rfl HD.out (by intro u hu; simp at hu; (first | (rcases hu with rfl | rfl | rfl | rfl | rfl | rfl <;> rfl) | (subst hu; rfl))) HAP.out (by omega) (by omega) ?_; intro g c3 w3 hown3 hgr3)
            have HO3 : Hid (OwnG 98 6 reI w3 w.heap.size (.slice (some ⟨g, 0, none⟩) (l.length + 1) c3) (l ++ [x])) := Lib.hid hown3
            have HR3 : Hid (StR w3 rb B (.inr r2)) := Lib.hid (((HS2.out.grown (row := none) (grown_alloc1 _ _ none) (fun g hg => by cases hg)).grown (row := none) (grown_alloc1 _ _ none) (fun g hg => by cases hg)).grown hgr3 (fun g hg => by have := (HO2.out.ge g hg).1; omega))
            have HB3 : Hid (w.grownBy w3 (some rb)) := Lib.hid (grown_new (grown_add (grown_add HB2.out (grown_alloc1 w2 _ _)) (grown_alloc1 _ _ _)) hgr3 (fun g hg => (HO2.out.ge g hg).1))
            have hz3 := hgr3.size
            have hlt3 : rb < w3.heap.size := by omega
            rw [HLN] at HO3
            clear hown3 hgr3 hz3
            go_roundw
            case rel => exact ⟨j + 1, l ++ [x], r2, some ⟨g, 0, none⟩, c3, by omega, rfl, rfl, HO3, Lib.hid (by rw [List.length_append, HLE.out]; rfl), HR3, HN2, HB3, hlt3⟩
            case measure => simp [intOf]; omega
        · have hd : decide ((j : Int) < (m : Int)) = false := by simp; omega
          obtain rfl : j = m := by omega
          have HF : Hid (rdL relP j r0 = .inr (l, r)) := Lib.hid (by
            rw [← HN.out, Nat.sub_self]
            simp [rdL, contL])
          go_wp2
          go_ret
          rw [HLS.out, HF.out]
          exact ⟨A, _, c, rfl, HR.out, HB.out, fun x r hx => by
            injection hx with hx
            injection hx with e1 e2
            subst e1
            exact HO.out.item re_turns (fun b hb => .inl hb)⟩
set_option maxHeartbeats 4000000 in
theorem serviceS_any {w : World} {rb B : Nat} {s : Sum Int (List Int)} (h : StR w rb B s) (hrb : rb < w.heap.size) :
    Calls Try.prog 40 #[.pointer (some ⟨rb, 0, none⟩)] w fun en w' => ∃ sv A n c, en = .returned (.agg #[.string sv, .slice A n c]) ∧ StR w' rb B (restS (upS svP s)) ∧ w.grownBy w' (some rb) ∧ ∀ x r, upS svP s = .inr (x, r) → svI w' (fun b => b < w.heap.size) [.string sv, .slice A n c] x := by
  have HN := Lib.hid (textG_any (h.grown (row := none) (grown_alloc1 w (.cells #[.string ⟨#[]⟩, .slice none 0 0] 90) none) (fun g hg => by cases hg)))
  have H0 := Lib.hid (heap_new w (.cells #[.string ⟨#[]⟩, .slice none 0 0] 90))
  clear h
  go_enter Try.func40, Try.ntmps40
  go_wp2_with fail
  refine HN.out.mono ?_
  rintro en v0 ⟨sv, rfl, hs, hg, hval⟩
  have hzv := hg.size
  rw [World.size_alloc] at hzv
  have e0 := (hg.block w.heap.size (by simp) (fun e => by injection e with e; omega)).trans H0.out
  obtain ⟨X, HX⟩ : ∃ X, Hid (X = v0.alloc (.cells #[.string sv, .slice none 0 0] 90)) := ⟨_, Lib.hid rfl⟩
  have hXs : X.heap.size = v0.heap.size + 1 := by rw [HX.out]; simp
  have hX : X.heap[v0.heap.size]? = some (.cells #[.string sv, .slice none 0 0] 90 (0, 0)) := by rw [HX.out]; exact heap_new v0 _
  have hY : X.heap[w.heap.size]? = some (.cells #[.string ⟨#[]⟩, .slice none 0 0] 90 (0, 0)) := by rw [HX.out, Below.heap_alloc _ _ _ (by omega)]; exact e0
  have HSX : Hid (StR X rb B (restS (upS strP s))) := Lib.hid (by rw [HX.out]; exact hs.grown (row := none) (grown_alloc1 v0 _ none) (fun g hg => by cases hg))
  have HGX : Hid (w.grownBy X (some rb)) := Lib.hid (by rw [HX.out]; exact grown_add (grown_add (grown_alloc1 w _ _) hg) (grown_alloc1 v0 _ _))
  obtain ⟨x0, x1, _, _⟩ := row2 hX
  have HXX := Lib.hid hX
  have HYY := Lib.hid hY
  have HV := Lib.hid (getReleases_any HSX.out (by omega))
  have HVAL := Lib.hid hval
  have hlx : w.heap.size < X.heap.size ∧ v0.heap.size < X.heap.size ∧ w.heap.size < v0.heap.size := ⟨by omega, by omega, by omega⟩
  clear hX hY e0 hs hg HN hval
  go_upto_region 2 with fail
  change Code.wp _ _ _ _ (v0.alloc (.cells #[.string sv, .slice none 0 0] 90))
  rw [← HX.out]
  go_wp2_with fail
  refine HV.out.mono ?_
  rintro en v2 ⟨A, n, c, rfl, hs2, hg2, hi2⟩
  have hz2 := hg2.size
  have f1 := (hg2.block v0.heap.size hlx.2.1 (fun e => by injection e with e; omega)).trans HXX.out
  have f0 := (hg2.block w.heap.size hlx.1 (fun e => by injection e with e; omega)).trans HYY.out
  clear x0 x1
  obtain ⟨x0, x1, _, p1⟩ := row2 f1
  obtain ⟨Y, HY⟩ : ∃ Y, Hid (Y = v2.setCell ⟨v0.heap.size, 1, none⟩ (.slice A n c)) := ⟨_, Lib.hid rfl⟩
  have hgY : v2.grownBy Y (some v0.heap.size) := by rw [HY.out]; exact grown_set _ _ _ _
  have g1 : Y.heap[v0.heap.size]? = some (.cells #[.string sv, .slice A n c] 90 (0, 0)) := by
    rw [HY.out]; exact heap_setCell_same v2 v0.heap.size 1 _ _ (.slice A n c) f1
  have g0 : Y.heap[w.heap.size]? = some (.cells #[.string ⟨#[]⟩, .slice none 0 0] 90 (0, 0)) := (hgY.block w.heap.size (by omega) (fun e => by injection e with e; omega)).trans f0
  have hgZ : v2.grownBy ((Y.setCell ⟨w.heap.size, 0, none⟩ (.string sv)).setCell ⟨w.heap.size, 1, none⟩ (.slice A n c)) none ∨ True := .inr trivial
  have HSY : Hid (StR Y rb B (restS (upS svP s))) := Lib.hid (by
    unfold svP
    rw [upS_pair]
    exact hs2.grown hgY (fun g hg => by injection hg with hg; omega))
  have HGY : Hid (w.grownBy Y (some rb)) := Lib.hid (grown_new (grown_add HGX.out hg2) hgY (fun g hg => by injection hg with hg; omega))
  have HG01 := Lib.hid (And.intro g0 g1)
  have HIT : Hid (∀ x r, upS svP s = .inr (x, r) → svI ((Y.setCell ⟨w.heap.size, 0, none⟩ (.string sv)).setCell ⟨w.heap.size, 1, none⟩ (.slice A n c)) (fun b => b < w.heap.size) [.string sv, .slice A n c] x) := Lib.hid (fun x r hx => by
    obtain ⟨⟨r1, h1⟩, h2⟩ := upS_pair_inr (show upS (pairP strP (lsL relP)) s = _ from hx)
    obtain rfl := HVAL.out _ _ h1
    have h3 := hi2 _ _ h2
    refine ⟨[.string x.1], [.slice A n c], rfl, rfl, ?_⟩
    have h4 : rsI Y (fun b => b < X.heap.size) [.slice A n c] x.2 := rs_turns.go h3 (FrM.of_grown hgY (fun g hg => by injection hg with hg; subst hg; exact hlx.2.1)) (fun b hb => .inl hb)
    have h5 := rs_turns.go h4 (FrM.of_grown (grown_set Y w.heap.size 0 (.string x.1)) (fun g hg => by injection hg with hg; subst hg; exact hlx.1)) (fun b hb => .inl hb)
    exact rs_turns.go h5 (FrM.of_grown (grown_set _ w.heap.size 1 (.slice A n c)) (fun g hg => by injection hg with hg; subst hg; exact hlx.1)) (fun b (hb : b < w.heap.size) => .inl (by show b < X.heap.size; omega)))
  clear hs2 hg2 f0 f1 hgY g0 g1 HV hi2 hgZ
  go_upto_region 3 with fail
  rw [← HY.out]
  clear x0 x1 p1
  obtain ⟨x0, x1, _, _⟩ := row2 HG01.out.2
  obtain ⟨y0, y1, q0, q1⟩ := row2 HG01.out.1
  go_wp2_with fail
  refine bodyPost_ret (v := .agg #[.string sv, .slice A n c]) ?_ rfl ⟨sv, A, n, c, rfl, ?_, ?_, HIT.out⟩
  · simp [results, Try.results40, go_sem, y0, y1]
  · exact HSY.out.grown (grown_add (grown_set _ _ _ _) (grown_set _ _ _ _)) (fun g hg => by injection hg with hg; omega)
  · exact grown_new HGY.out (grown_add (grown_set _ _ _ _) (grown_set _ _ _ _)) (fun g hg => by injection hg with hg; omega)
theorem info_getServices_any : (Try.prog.info? 90).map (fun i => (i.zero, i.size, i.bytes)) = some (some (.agg #[.string ⟨#[]⟩, .slice none 0 0]), 2, 40) := by kernel_rfl
set_option maxHeartbeats 4000000 in
theorem getServices_any {w : World} {rb B : Nat} {s : Sum Int (List Int)} (h : StR w rb B s) (hrb : rb < w.heap.size) :
    Calls Try.prog 39 #[.pointer (some ⟨rb, 0, none⟩), .func (.func 40) #[.pointer (some ⟨rb, 0, none⟩)] #[]] w fun en w' => ∃ A n c, en = .returned (.slice A n c) ∧ StR w' rb B (restS (upS (lsL svP) s)) ∧ w.grownBy w' (some rb) ∧ ∀ x r, upS (lsL svP) s = .inr (x, r) → SlI 2 svI w' (fun b => b < w.heap.size) [.slice A n c] x := by
  cases s with
  | inl e =>
    obtain ⟨he, r, hr⟩ := h
    have HC := Lib.hid (count_err hr (by omega))
    have HE := Lib.hid he
    clear hr he
    go_enter Try.func39, Try.ntmps39
    go_wp2_with fail
    refine HC.out.mono ?_
    rintro en w1 ⟨rfl, h1, hg1⟩
    have HF : Hid (StR w1 rb B (.inl e) ∧ w.grownBy w1 (some rb)) := Lib.hid ⟨⟨HE.out, r, h1⟩, hg1⟩
    clear h1 hg1 HC
    go_wp2
    refine wp_loop_rounds 1 ?_
    rw [rounds_succ]
    go_wp2
    go_ret
    exact ⟨none, 0, 0, rfl, HF.out.1, HF.out.2, fun x r hx => by cases hx⟩
  | inr rest =>
    obtain ⟨hr, hb, hl⟩ := h
    have HC := Lib.hid (count_any hr hb hl)
    have HBY := Lib.hid hb
    have HL := Lib.hid hl
    clear hr hb hl
    go_enter Try.func39, Try.ntmps39
    go_wp2_with fail
    refine HC.out.mono ?_
    rintro en w1 ⟨n, rfl, hn⟩
    cases hres : cnt rest with
    | inl e =>
      rw [hres] at hn
      obtain ⟨hg, rfl, r, hrd⟩ := hn
      have HE : Hid (upS (lsL svP) (.inr rest) = .inl e) := Lib.hid (by show lsL svP rest = _; unfold lsL; rw [hres])
      have HF : Hid (StR w1 rb B (.inl e) ∧ w.grownBy w1 (some rb)) := Lib.hid ⟨⟨cnt_err hres, r, hrd⟩, hg⟩
      clear hg hrd hres HC
      go_wp2
      refine wp_loop_rounds 1 ?_
      rw [rounds_succ]
      go_wp2
      go_ret
      rw [HE.out]
      exact ⟨none, 0, 0, rfl, HF.out.1, HF.out.2, fun x r hx => by cases hx⟩
    | inr p =>
      obtain ⟨m, r0⟩ := p
      rw [hres] at hn
      obtain ⟨hg, rfl, hrd⟩ := hn
      obtain ⟨hnum, hm⟩ := cnt_ok hres
      have hrl1 := rest_len HBY.out hnum
      have hLL := HL.out
      have HST : Hid (StR w1 rb B (.inr r0)) := Lib.hid ⟨hrd, num_bytes HBY.out hnum, by omega⟩
      have HB1 : Hid (w.grownBy w1 (some rb)) := Lib.hid hg
      have HLS : Hid (upS (lsL svP) (.inr rest) = rdL svP m r0) := Lib.hid (by show lsL svP rest = _; unfold lsL; rw [hres])
      have hz1 := hg.size
      have hmm : m ≤ 1000000000 := by omega
      clear hg hrd hres hnum hLL hrl1 HC hm
      go_wp2
      go_loopw [5, 6, 9] (fun v5 _ v9 wr => ∃ (j : Nat) (l : List _) (r : List Int) (A : Option Addr) (c : Nat), j ≤ m ∧ v9 = .int .i64 (j : Int) ∧ v5 = .slice A j c ∧ Hid (OwnG 90 2 svI wr w.heap.size (.slice A j c) l) ∧ Hid (l.length = j) ∧ Hid (StR wr rb B (.inr r)) ∧ Hid (contL l (rdL svP (m - j) r) = rdL svP m r0) ∧ Hid (w.grownBy wr (some rb)) ∧ rb < wr.heap.size) (fun _ _ v _ => m - (intOf v).toNat)
      case atStart => exact ⟨0, [], r0, none, 0, Nat.zero_le _, rfl, rfl, Lib.hid (OwnG.nil_ _ _ _ _ _), Lib.hid rfl, HST, Lib.hid (by rw [contL_nil]; rfl), HB1, by omega⟩
      case round =>
        obtain ⟨j, l, r, A, c, hj, rfl, rfl, HO, HLE, HR, HN, HB, hlt⟩ := hrel
        by_cases hjm : j < m
        · have hd : decide ((j : Int) < (m : Int)) = true := by simp; omega
          have hadd : IntKind.i64.wrap ((j : Int) + 1) = ((j + 1 : Nat) : Int) := by rw [IntWalk.i64_in _ (by omega)]; omega
          have HNG := Lib.hid (serviceS_any HR.out hlt)
          go_wp2_with fail
          refine HNG.out.mono ?_
          rintro en w2 ⟨sv, A3, n3, c4, rfl, hs, hg, hval⟩
          clear HNG
          have e0 : upS svP (.inr r) = svP r := rfl
          rw [e0] at hs hval
          cases hres : svP r with
          | inl e =>
            rw [hres] at hs
            obtain ⟨he, r2, hrd⟩ := hs
            have hne : (e != 0) = true := by rcases he with h | h <;> subst h <;> rfl
            have HF : Hid (rdL svP m r0 = .inl e) := Lib.hid (by
              rw [← HN.out, show m - j = (m - j - 1) + 1 by omega, rdL_err hres]; rfl)
            have HF2 : Hid (StR (w2.alloc (.cells #[.string sv, .slice A3 n3 c4] 90)) rb B (.inl e) ∧ w.grownBy (w2.alloc (.cells #[.string sv, .slice A3 n3 c4] 90)) (some rb)) := Lib.hid ⟨⟨he, r2, (hrd.alloc _)⟩, grown_add (grown_add HB.out hg) (grown_alloc1 w2 _ _)⟩
            obtain ⟨A', c', hrow, _, _⟩ := ((hrd.alloc _) : Rdr (w2.alloc (.cells #[.string sv, .slice A3 n3 c4] 90)) rb B r2 e).row
            obtain ⟨hc0, hc1, _, _⟩ := row2 hrow
            clear hg hrd hres hrow he hval e0
            go_wp2
            go_ret
            rw [HLS.out, HF.out]
            exact ⟨none, 0, 0, rfl, HF2.out.1, HF2.out.2, fun x r hx => by cases hx⟩
          | inr p =>
            obtain ⟨x, r2⟩ := p
            rw [hres] at hs
            have HIT := Lib.hid (hval x r2 hres)
            have HS2 : Hid (StR w2 rb B (.inr r2)) := Lib.hid hs
            obtain ⟨hrd, _, _⟩ := hs
            have HB2 : Hid (w.grownBy w2 (some rb)) := Lib.hid (grown_add HB.out hg)
            have hzz := HB2.out.size
            have hzr := HB.out.size
            have HO2 : Hid (OwnG 90 2 svI w2 w.heap.size (.slice A j c) l) := Lib.hid (HO.out.turn sv_turns hg (fun g hg' => by injection hg' with hg'; omega))
            have HN2 : Hid (contL (l ++ [x]) (rdL svP (m - (j + 1)) r2) = rdL svP m r0) := Lib.hid (by
              rw [← HN.out, show m - j = (m - (j + 1)) + 1 by omega, rdL_step hres, contL_contL])
            have HAP : Hid (svI ((w2.alloc (.cells #[.string sv, .slice A3 n3 c4] 90)).alloc (.cells #[.string sv, .slice A3 n3 c4] 90)) (Ap w.heap.size (.slice A j c)) [.string sv, .slice A3 n3 c4] x) := Lib.hid (sv_turns.go HIT.out (FrM.of_grown (row := none) (grown_add (grown_alloc1 w2 _ _) (grown_alloc1 _ _ _)) (fun g hg => by cases hg)) (fun b hb => .inl (by
              rcases hb with hb | hb
              · exact (HO.out.ge b hb).2
              · omega)))
            have hlt2 := hrd.here
            have hb1 := heap_new (w2.alloc (.cells #[.string sv, .slice A3 n3 c4] 90)) (.cells #[.string sv, .slice A3 n3 c4] 90)
            have hsz : (w2.alloc (.cells #[.string sv, .slice A3 n3 c4] 90)).heap.size = w2.heap.size + 1 := by simp
            rw [hsz] at hb1
            have HD := Lib.hid (cells_of hb1)
            have hwe : ((w2.alloc (.cells #[.string sv, .slice A3 n3 c4] 90)).alloc (.cells #[.string sv, .slice A3 n3 c4] 90)).heap.size = w2.heap.size + 2 := by simp
            obtain ⟨A', c', hrow, _, _⟩ := ((hrd.alloc _) : Rdr (w2.alloc (.cells #[.string sv, .slice A3 n3 c4] 90)) rb B r2 0).row
            obtain ⟨hc0, hc1, _, _⟩ := row2 hrow
            have HLN := HLE.out
            clear hg hrd hres hrow hb1 hval e0 HIT
            go_wp2_with (at_builtin; refine wplG_app sv_turns Try.underlying22 info_getServices_any rfl (by decide) (by decide) rfl (.tmp 18) (.tmp 20) rfl w.heap.size (.slice A j c) l rfl ((HO2.out.alloc sv_turns _).alloc sv_turns _) (w2.heap.size + 1) [.string sv, .slice A3 n3 c4] x rfl rfl HD.out (by intro u hu; simp at hu; (first | (rcases hu with rfl | rfl <;> rfl) | (subst hu; rfl))) HAP.out (by omega) (by omega) ?_; intro g c3 w3 hown3 hgr3)
            have HO3 : Hid (OwnG 90 2 svI w3 w.heap.size (.slice (some ⟨g, 0, none⟩) (l.length + 1) c3) (l ++ [x])) := Lib.hid hown3
            have HR3 : Hid (StR w3 rb B (.inr r2)) := Lib.hid (((HS2.out.grown (row := none) (grown_alloc1 _ _ none) (fun g hg => by cases hg)).grown (row := none) (grown_alloc1 _ _ none) (fun g hg => by cases hg)).grown hgr3 (fun g hg => by have := (HO2.out.ge g hg).1; omega))
            have HB3 : Hid (w.grownBy w3 (some rb)) := Lib.hid (grown_new (grown_add (grown_add HB2.out (grown_alloc1 w2 _ _)) (grown_alloc1 _ _ _)) hgr3 (fun g hg => (HO2.out.ge g hg).1))
            have hz3 := hgr3.size
            have hlt3 : rb < w3.heap.size := by omega
            rw [HLN] at HO3
            clear hown3 hgr3 hz3
            go_roundw
            case rel => exact ⟨j + 1, l ++ [x], r2, some ⟨g, 0, none⟩, c3, by omega, rfl, rfl, HO3, Lib.hid (by rw [List.length_append, HLE.out]; rfl), HR3, HN2, HB3, hlt3⟩
            case measure => simp [intOf]; omega
        · have hd : decide ((j : Int) < (m : Int)) = false := by simp; omega
          obtain rfl : j = m := by omega
          have HF : Hid (rdL svP j r0 = .inr (l, r)) := Lib.hid (by
            rw [← HN.out, Nat.sub_self]
            simp [rdL, contL])
          go_wp2
          go_ret
          rw [HLS.out, HF.out]
          exact ⟨A, _, c, rfl, HR.out, HB.out, fun x r hx => by
            injection hx with hx
            injection hx with e1 e2
            subst e1
            exact HO.out.item sv_turns (fun b hb => .inl hb)⟩
end Go.Proofs.Ytmfoammkcokcoaa
