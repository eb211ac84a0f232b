/-
  Lists of lists that the program reads.
  Ranges, and pins, that the program reads.
  Lists of pins that the program reads.
-/
import Derived.Test.YtmfoammkcokcoaaUMe
namespace Go.Proofs.Ytmfoammkcokcoaa
section
open Go.RowKit
open ByteP CodeP
set_option linter.unusedVariables false
set_option maxRecDepth 10000
theorem info_getLists_any : (Try.prog.info? 152).map (fun i => (i.zero, i.size, i.bytes)) = some (some (.slice none 0 0), 1, 24) := by kernel_rfl
set_option maxHeartbeats 4000000 in
theorem getLists_any {w : World} {rb B : Nat} {s : Sum Int (List Int)} (h : StR w rb B s) (hrb : rb < w.heap.size) :
    Calls Try.prog 89 #[.pointer (some ⟨rb, 0, none⟩), .func (.func 90) #[.pointer (some ⟨rb, 0, none⟩)] #[]] w fun en w' => ∃ A n c, en = .returned (.slice A n c) ∧ StR w' rb B (restS (upS (lsL (lsL compV)) s)) ∧ w.grownBy w' (some rb) ∧ ∀ x r, upS (lsL (lsL compV)) s = .inr (x, r) → SlI 1 liI w' (fun b => b < w.heap.size) [.slice A n c] x := by
  cases s with
  | inl e =>
    obtain ⟨he, r, hr⟩ := h
    have HC := Lib.hid (count_err hr (by omega))
    have HE := Lib.hid he
    clear hr he
    go_enter Try.func89, Try.ntmps89
    go_wp2_with fail
    refine HC.out.mono ?_
    rintro en w1 ⟨rfl, h1, hg1⟩
    have HF : Hid (StR w1 rb B (.inl e) ∧ w.grownBy w1 (some rb)) := Lib.hid ⟨⟨HE.out, r, h1⟩, hg1⟩
    clear h1 hg1 HC
    go_wp2
    refine wp_loop_rounds 1 ?_
    rw [rounds_succ]
    go_wp2
    go_ret
    exact ⟨none, 0, 0, rfl, HF.out.1, HF.out.2, fun x r hx => by cases hx⟩
  | inr rest =>
    obtain ⟨hr, hb, hl⟩ := h
    have HC := Lib.hid (count_any hr hb hl)
    have HBY := Lib.hid hb
    have HL := Lib.hid hl
    clear hr hb hl
    go_enter Try.func89, Try.ntmps89
    go_wp2_with fail
    refine HC.out.mono ?_
    rintro en w1 ⟨n, rfl, hn⟩
    cases hres : cnt rest with
    | inl e =>
      rw [hres] at hn
      obtain ⟨hg, rfl, r, hrd⟩ := hn
      have HE : Hid (upS (lsL (lsL compV)) (.inr rest) = .inl e) := Lib.hid (by show lsL (lsL compV) rest = _; unfold lsL; rw [hres])
      have HF : Hid (StR w1 rb B (.inl e) ∧ w.grownBy w1 (some rb)) := Lib.hid ⟨⟨cnt_err hres, r, hrd⟩, hg⟩
      clear hg hrd hres HC
      go_wp2
      refine wp_loop_rounds 1 ?_
      rw [rounds_succ]
      go_wp2
      go_ret
      rw [HE.out]
      exact ⟨none, 0, 0, rfl, HF.out.1, HF.out.2, fun x r hx => by cases hx⟩
    | inr p =>
      obtain ⟨m, r0⟩ := p
      rw [hres] at hn
      obtain ⟨hg, rfl, hrd⟩ := hn
      obtain ⟨hnum, hm⟩ := cnt_ok hres
      have hrl1 := rest_len HBY.out hnum
      have hLL := HL.out
      have HST : Hid (StR w1 rb B (.inr r0)) := Lib.hid ⟨hrd, num_bytes HBY.out hnum, by omega⟩
      have HB1 : Hid (w.grownBy w1 (some rb)) := Lib.hid hg
      have HLS : Hid (upS (lsL (lsL compV)) (.inr rest) = rdL (lsL compV) m r0) := Lib.hid (by show lsL (lsL compV) rest = _; unfold lsL; rw [hres])
      have hz1 := hg.size
      have hmm : m ≤ 1000000000 := by omega
      clear hg hrd hres hnum hLL hrl1 HC hm
      go_wp2
      go_loopw [5, 6, 9] (fun v5 _ v9 wr => ∃ (j : Nat) (l : List _) (r : List Int) (A : Option Addr) (c : Nat), j ≤ m ∧ v9 = .int .i64 (j : Int) ∧ v5 = .slice A j c ∧ Hid (OwnG 152 1 liI wr w.heap.size (.slice A j c) l) ∧ Hid (l.length = j) ∧ Hid (StR wr rb B (.inr r)) ∧ Hid (contL l (rdL (lsL compV) (m - j) r) = rdL (lsL compV) m r0) ∧ Hid (w.grownBy wr (some rb)) ∧ rb < wr.heap.size) (fun _ _ v _ => m - (intOf v).toNat)
      case atStart => exact ⟨0, [], r0, none, 0, Nat.zero_le _, rfl, rfl, Lib.hid (OwnG.nil_ _ _ _ _ _), Lib.hid rfl, HST, Lib.hid (by rw [contL_nil]; rfl), HB1, by omega⟩
      case round =>
        obtain ⟨j, l, r, A, c, hj, rfl, rfl, HO, HLE, HR, HN, HB, hlt⟩ := hrel
        by_cases hjm : j < m
        · have hd : decide ((j : Int) < (m : Int)) = true := by simp; omega
          have hadd : IntKind.i64.wrap ((j : Int) + 1) = ((j + 1 : Nat) : Int) := by rw [IntWalk.i64_in _ (by omega)]; omega
          have HNG := Lib.hid (compsG_any HR.out hlt)
          go_wp2_with fail
          refine HNG.out.mono ?_
          rintro en w2 ⟨A3, n3, c4, rfl, hs, hg, hval⟩
          clear HNG
          have e0 : upS (lsL compV) (.inr r) = (lsL compV) r := rfl
          rw [e0] at hs hval
          cases hres : (lsL compV) r with
          | inl e =>
            rw [hres] at hs
            obtain ⟨he, r2, hrd⟩ := hs
            have hne : (e != 0) = true := by rcases he with h | h <;> subst h <;> rfl
            have HF : Hid (rdL (lsL compV) m r0 = .inl e) := Lib.hid (by
              rw [← HN.out, show m - j = (m - j - 1) + 1 by omega, rdL_err hres]; rfl)
            have HF2 : Hid (StR w2 rb B (.inl e) ∧ w.grownBy w2 (some rb)) := Lib.hid ⟨⟨he, r2, hrd⟩, grown_add HB.out hg⟩
            obtain ⟨A', c', hrow, _, _⟩ := (hrd : Rdr w2 rb B r2 e).row
            obtain ⟨hc0, hc1, _, _⟩ := row2 hrow
            clear hg hrd hres hrow he hval e0
            go_wp2
            go_ret
            rw [HLS.out, HF.out]
            exact ⟨none, 0, 0, rfl, HF2.out.1, HF2.out.2, fun x r hx => by cases hx⟩
          | inr p =>
            obtain ⟨x, r2⟩ := p
            rw [hres] at hs
            have HIT := Lib.hid (hval x r2 hres)
            have HS2 : Hid (StR w2 rb B (.inr r2)) := Lib.hid hs
            obtain ⟨hrd, _, _⟩ := hs
            have HB2 : Hid (w.grownBy w2 (some rb)) := Lib.hid (grown_add HB.out hg)
            have hzz := HB2.out.size
            have hzr := HB.out.size
            have HO2 : Hid (OwnG 152 1 liI w2 w.heap.size (.slice A j c) l) := Lib.hid (HO.out.turn li_turns hg (fun g hg' => by injection hg' with hg'; omega))
            have HN2 : Hid (contL (l ++ [x]) (rdL (lsL compV) (m - (j + 1)) r2) = rdL (lsL compV) m r0) := Lib.hid (by
              rw [← HN.out, show m - j = (m - (j + 1)) + 1 by omega, rdL_step hres, contL_contL])
            have HAP : Hid (liI (w2.alloc (.cells #[.slice A3 n3 c4] 152)) (Ap w.heap.size (.slice A j c)) [.slice A3 n3 c4] x) := Lib.hid (li_turns.go HIT.out (FrM.of_grown (row := none) (grown_alloc1 w2 _ _) (fun g hg => by cases hg)) (fun b hb => .inl (by
              rcases hb with hb | hb
              · exact (HO.out.ge b hb).2
              · omega)))
            have hlt2 := hrd.here
            have hb1 := heap_new w2 (.cells #[.slice A3 n3 c4] 152)
            have hsz : (w2.alloc (.cells #[.slice A3 n3 c4] 152)).heap.size = w2.heap.size + 1 := by simp
            have HD := Lib.hid (cells_of hb1)
            have hwe : (w2.alloc (.cells #[.slice A3 n3 c4] 152)).heap.size = w2.heap.size + 1 := by simp
            obtain ⟨A', c', hrow, _, _⟩ := (hrd : Rdr w2 rb B r2 0).row
            obtain ⟨hc0, hc1, _, _⟩ := row2 hrow
            have HLN := HLE.out
            clear hg hrd hres hrow hb1 hval e0 HIT
            go_wp2_with (at_builtin; refine wplG_app li_turns Try.underlying103 info_getLists_any rfl (by decide) (by decide) rfl (.tmp 18) (.tmp 20) rfl w.heap.size (.slice A j c) l rfl (HO2.out.alloc li_turns _) w2.heap.size [.slice A3 n3 c4] x rfl rfl HD.out (by intro u hu; simp at hu; (first | (rcases hu with rfl <;> rfl) | (subst hu; rfl))) HAP.out (by omega) (by omega) ?_; intro g c3 w3 hown3 hgr3)
            have HO3 : Hid (OwnG 152 1 liI w3 w.heap.size (.slice (some ⟨g, 0, none⟩) (l.length + 1) c3) (l ++ [x])) := Lib.hid hown3
            have HR3 : Hid (StR w3 rb B (.inr r2)) := Lib.hid ((HS2.out.grown (row := none) (grown_alloc1 _ _ none) (fun g hg => by cases hg)).grown hgr3 (fun g hg => by have := (HO2.out.ge g hg).1; omega))
            have HB3 : Hid (w.grownBy w3 (some rb)) := Lib.hid (grown_new (grown_add HB2.out (grown_alloc1 w2 _ _)) hgr3 (fun g hg => (HO2.out.ge g hg).1))
            have hz3 := hgr3.size
            have hlt3 : rb < w3.heap.size := by omega
            rw [HLN] at HO3
            clear hown3 hgr3 hz3
            go_roundw
            case rel => exact ⟨j + 1, l ++ [x], r2, some ⟨g, 0, none⟩, c3, by omega, rfl, rfl, HO3, Lib.hid (by rw [List.length_append, HLE.out]; rfl), HR3, HN2, HB3, hlt3⟩
            case measure => simp [intOf]; omega
        · have hd : decide ((j : Int) < (m : Int)) = false := by simp; omega
          obtain rfl : j = m := by omega
          have HF : Hid (rdL (lsL compV) j r0 = .inr (l, r)) := Lib.hid (by
            rw [← HN.out, Nat.sub_self]
            simp [rdL, contL])
          go_wp2
          go_ret
          rw [HLS.out, HF.out]
          exact ⟨A, _, c, rfl, HR.out, HB.out, fun x r hx => by
            injection hx with hx
            injection hx with e1 e2
            subst e1
            exact HO.out.item li_turns (fun b hb => .inl hb)⟩
end
section
open Go.RowKit
open ByteP CodeP
set_option linter.unusedVariables false
set_option maxRecDepth 10000
theorem numS_eq (s : Sum Int (List Int)) : numS s = upS num s := by cases s <;> rfl
theorem numG_any {w : World} {rb B : Nat} {s : Sum Int (List Int)} (h : StR w rb B s) :
    Calls Try.prog 77 #[.pointer (some ⟨rb, 0, none⟩)] w fun en w' => ∃ n, en = .returned (.int .i64 n) ∧ StR w' rb B (restS (upS numI s)) ∧ w.grownBy w' (some rb) ∧ (∀ x r, upS numI s = .inr (x, r) → n = x) := by
  refine (numS_any h).mono ?_
  rintro en w' ⟨n, rfl, h1, h2, h3⟩
  rw [numS_eq] at h1 h3
  refine ⟨n, rfl, by unfold numI; rw [upS_map]; exact h1, h2, fun x r hx => ?_⟩
  cases s with
  | inl e => cases hx
  | inr r0 =>
    obtain ⟨k, hk, rfl⟩ := mapP_inr (show mapP _ num r0 = _ from hx)
    exact h3 k r hk
theorem upS_pair_inr {α β : Type} {p : Pr α} {q : Pr β} {s : Sum Int (List Int)} {z : α × β} {r : List Int} (h : upS (pairP p q) s = .inr (z, r)) : (∃ r1, upS p s = .inr (z.1, r1)) ∧ upS q (restS (upS p s)) = .inr (z.2, r) := by
  cases s with
  | inl e => cases h
  | inr r0 =>
    obtain ⟨r1, h1, h2⟩ := pairP_parts (show pairP p q r0 = _ from h)
    refine ⟨⟨r1, h1⟩, ?_⟩
    show upS q (restS (p r0)) = _
    rw [h1]; exact h2
theorem row1f {w : World} {g : Nat} {x : Value} {t : TypeId} (h : w.heap[g]? = some (.cells #[x] t (0, 0))) : w.cell? ⟨g, 0, none⟩ = some x ∧ w.frozen? ⟨g, 0, none⟩ = false :=
  ⟨by rw [cell_of_row w g 0 _ _ _ h]; rfl, frozen_of_row w g 0 _ _ h⟩
set_option maxHeartbeats 2000000 in
theorem spanS_any {w : World} {rb B : Nat} {s : Sum Int (List Int)} (h : StR w rb B s) (hrb : rb < w.heap.size) :
    Calls Try.prog 78 #[.pointer (some ⟨rb, 0, none⟩)] w fun en w' => ∃ A n c, en = .returned (.agg #[.slice A n c]) ∧ StR w' rb B (restS (upS rngP s)) ∧ w.grownBy w' (some rb) ∧ ∀ x r, upS rngP s = .inr (x, r) → rgI w' (fun b => b < w.heap.size) [.slice A n c] x := by
  have HN := Lib.hid (getLists_any (h.grown (row := none) (grown_alloc1 w (.cells #[.slice none 0 0] 105) none) (fun g hg => by cases hg)) (by simp; omega))
  have H0 := Lib.hid (heap_new w (.cells #[.slice none 0 0] 105))
  clear h
  go_enter Try.func78, Try.ntmps78
  go_wp2_with fail
  refine HN.out.mono ?_
  rintro en v0 ⟨A, n, c, rfl, hs, hg, hi⟩
  have hzv := hg.size
  rw [World.size_alloc] at hzv
  have e0 := (hg.block w.heap.size (by simp) (fun e => by injection e with e; omega)).trans H0.out
  obtain ⟨y0, q0⟩ := row1f e0
  have HF : Hid (StR (v0.setCell ⟨w.heap.size, 0, none⟩ (.slice A n c)) rb B (restS (upS rngP s)) ∧ w.grownBy (v0.setCell ⟨w.heap.size, 0, none⟩ (.slice A n c)) (some rb)) := Lib.hid ⟨hs.grown (grown_set _ _ _ _) (fun g hg => by injection hg with hg; omega), grown_new (grown_add (grown_alloc1 w _ _) hg) (grown_set _ _ _ _) (fun g hg => by injection hg with hg; omega)⟩
  have HI : Hid (∀ x r, upS rngP s = .inr (x, r) → rgI (v0.setCell ⟨w.heap.size, 0, none⟩ (.slice A n c)) (fun b => b < w.heap.size) [.slice A n c] x) := Lib.hid (fun x r hx => rg_turns.go (hi x r hx) (FrM.of_grown (grown_set v0 w.heap.size 0 _) (fun g hg => by injection hg with hg; subst hg; simp)) (fun b hb => .inl (by simp; omega)))
  clear hs hg hi e0 HN
  go_wp2_with fail
  refine bodyPost_ret (v := .agg #[.slice A n c]) ?_ rfl ⟨A, n, c, rfl, HF.out.1, HF.out.2, HI.out⟩
  simp [results, Try.results78, go_sem, y0]
set_option maxHeartbeats 4000000 in
theorem pinS_any {w : World} {rb B : Nat} {s : Sum Int (List Int)} (h : StR w rb B s) (hrb : rb < w.heap.size) :
    Calls Try.prog 52 #[.pointer (some ⟨rb, 0, none⟩)] w fun en w' => ∃ sv A n c, en = .returned (.agg #[.int .i64 sv, .slice A n c]) ∧ StR w' rb B (restS (upS pinP s)) ∧ w.grownBy w' (some rb) ∧ ∀ x r, upS pinP s = .inr (x, r) → pnI w' (fun b => b < w.heap.size) [.int .i64 sv, .slice A n c] x := by
  have HN := Lib.hid (numG_any (h.grown (row := none) (grown_alloc1 w (.cells #[.int .i64 0, .slice none 0 0] 134) none) (fun g hg => by cases hg)))
  have H0 := Lib.hid (heap_new w (.cells #[.int .i64 0, .slice none 0 0] 134))
  clear h
  go_enter Try.func52, Try.ntmps52
  go_wp2_with fail
  refine HN.out.mono ?_
  rintro en v0 ⟨sv, rfl, hs, hg, hval⟩
  have hzv := hg.size
  rw [World.size_alloc] at hzv
  have e0 := (hg.block w.heap.size (by simp) (fun e => by injection e with e; omega)).trans H0.out
  obtain ⟨X, HX⟩ : ∃ X, Hid (X = v0.alloc (.cells #[.int .i64 sv, .slice none 0 0] 134)) := ⟨_, Lib.hid rfl⟩
  have hXs : X.heap.size = v0.heap.size + 1 := by rw [HX.out]; simp
  have hX : X.heap[v0.heap.size]? = some (.cells #[.int .i64 sv, .slice none 0 0] 134 (0, 0)) := by rw [HX.out]; exact heap_new v0 _
  have hY : X.heap[w.heap.size]? = some (.cells #[.int .i64 0, .slice none 0 0] 134 (0, 0)) := by rw [HX.out, Below.heap_alloc _ _ _ (by omega)]; exact e0
  have HSX : Hid (StR X rb B (restS (upS numI s))) := Lib.hid (by rw [HX.out]; exact hs.grown (row := none) (grown_alloc1 v0 _ none) (fun g hg => by cases hg))
  have HGX : Hid (w.grownBy X (some rb)) := Lib.hid (by rw [HX.out]; exact grown_add (grown_add (grown_alloc1 w _ _) hg) (grown_alloc1 v0 _ _))
  obtain ⟨x0, x1, _, _⟩ := row2 hX
  have HXX := Lib.hid hX
  have HYY := Lib.hid hY
  have HV := Lib.hid (spanS_any HSX.out (by omega))
  have HVAL := Lib.hid hval
  have hlx : w.heap.size < X.heap.size ∧ v0.heap.size < X.heap.size ∧ w.heap.size < v0.heap.size := ⟨by omega, by omega, by omega⟩
  clear hX hY e0 hs hg HN hval
  go_upto_region 2 with fail
  change Code.wp _ _ _ _ (v0.alloc (.cells #[.int .i64 sv, .slice none 0 0] 134))
  rw [← HX.out]
  go_wp2_with fail
  refine HV.out.mono ?_
  rintro en v2 ⟨A, n, c, rfl, hs2, hg2, hi2⟩
  have hz2 := hg2.size
  have f1 := (hg2.block v0.heap.size hlx.2.1 (fun e => by injection e with e; omega)).trans HXX.out
  have f0 := (hg2.block w.heap.size hlx.1 (fun e => by injection e with e; omega)).trans HYY.out
  clear x0 x1
  obtain ⟨x0, x1, _, p1⟩ := row2 f1
  obtain ⟨Y, HY⟩ : ∃ Y, Hid (Y = v2.setCell ⟨v0.heap.size, 1, none⟩ (.slice A n c)) := ⟨_, Lib.hid rfl⟩
  have hgY : v2.grownBy Y (some v0.heap.size) := by rw [HY.out]; exact grown_set _ _ _ _
  have g1 : Y.heap[v0.heap.size]? = some (.cells #[.int .i64 sv, .slice A n c] 134 (0, 0)) := by
    rw [HY.out]; exact heap_setCell_same v2 v0.heap.size 1 _ _ (.slice A n c) f1
  have g0 : Y.heap[w.heap.size]? = some (.cells #[.int .i64 0, .slice none 0 0] 134 (0, 0)) := (hgY.block w.heap.size (by omega) (fun e => by injection e with e; omega)).trans f0
  have hgZ : v2.grownBy ((Y.setCell ⟨w.heap.size, 0, none⟩ (.int .i64 sv)).setCell ⟨w.heap.size, 1, none⟩ (.slice A n c)) none ∨ True := .inr trivial
  have HSY : Hid (StR Y rb B (restS (upS pinP s))) := Lib.hid (by
    unfold pinP
    rw [upS_pair]
    exact hs2.grown hgY (fun g hg => by injection hg with hg; omega))
  have HGY : Hid (w.grownBy Y (some rb)) := Lib.hid (grown_new (grown_add HGX.out hg2) hgY (fun g hg => by injection hg with hg; omega))
  have HG01 := Lib.hid (And.intro g0 g1)
  have HIT : Hid (∀ x r, upS pinP s = .inr (x, r) → pnI ((Y.setCell ⟨w.heap.size, 0, none⟩ (.int .i64 sv)).setCell ⟨w.heap.size, 1, none⟩ (.slice A n c)) (fun b => b < w.heap.size) [.int .i64 sv, .slice A n c] x) := Lib.hid (fun x r hx => by
    obtain ⟨⟨r1, h1⟩, h2⟩ := upS_pair_inr (show upS (pairP numI rngP) s = _ from hx)
    obtain rfl := HVAL.out _ _ h1
    have h3 := hi2 _ _ h2
    refine ⟨[.int .i64 x.1], [.slice A n c], rfl, rfl, ?_⟩
    have h4 : rgI Y (fun b => b < X.heap.size) [.slice A n c] x.2 := rg_turns.go h3 (FrM.of_grown hgY (fun g hg => by injection hg with hg; subst hg; exact hlx.2.1)) (fun b hb => .inl hb)
    have h5 := rg_turns.go h4 (FrM.of_grown (grown_set Y w.heap.size 0 (.int .i64 x.1)) (fun g hg => by injection hg with hg; subst hg; exact hlx.1)) (fun b hb => .inl hb)
    exact rg_turns.go h5 (FrM.of_grown (grown_set _ w.heap.size 1 (.slice A n c)) (fun g hg => by injection hg with hg; subst hg; exact hlx.1)) (fun b (hb : b < w.heap.size) => .inl (by show b < X.heap.size; omega)))
  clear hs2 hg2 f0 f1 hgY g0 g1 HV hi2 hgZ
  go_upto_region 3 with fail
  rw [← HY.out]
  clear x0 x1 p1
  obtain ⟨x0, x1, _, _⟩ := row2 HG01.out.2
  obtain ⟨y0, y1, q0, q1⟩ := row2 HG01.out.1
  go_wp2_with fail
  refine bodyPost_ret (v := .agg #[.int .i64 sv, .slice A n c]) ?_ rfl ⟨sv, A, n, c, rfl, ?_, ?_, HIT.out⟩
  · simp [results, Try.results52, go_sem, y0, y1]
  · exact HSY.out.grown (grown_add (grown_set _ _ _ _) (grown_set _ _ _ _)) (fun g hg => by injection hg with hg; omega)
  · exact grown_new HGY.out (grown_add (grown_set _ _ _ _) (grown_set _ _ _ _)) (fun g hg => by injection hg with hg; omega)
end
section
open Go.RowKit
open ByteP CodeP
set_option linter.unusedVariables false
set_option maxRecDepth 10000
theorem info_getPins_any : (Try.prog.info? 134).map (fun i => (i.zero, i.size, i.bytes)) = some (some (.agg #[.int .i64 0, .slice none 0 0]), 2, 32) := by kernel_rfl
set_option maxHeartbeats 4000000 in
theorem getPins_any {w : World} {rb B : Nat} {s : Sum Int (List Int)} (h : StR w rb B s) (hrb : rb < w.heap.size) :
    Calls Try.prog 51 #[.pointer (some ⟨rb, 0, none⟩), .func (.func 52) #[.pointer (some ⟨rb, 0, none⟩)] #[]] w fun en w' => ∃ A n c, en = .returned (.slice A n c) ∧ StR w' rb B (restS (upS (lsL pinP) s)) ∧ w.grownBy w' (some rb) ∧ ∀ x r, upS (lsL pinP) s = .inr (x, r) → SlI 2 pnI w' (fun b => b < w.heap.size) [.slice A n c] x := by
  cases s with
  | inl e =>
    obtain ⟨he, r, hr⟩ := h
    have HC := Lib.hid (count_err hr (by omega))
    have HE := Lib.hid he
    clear hr he
    go_enter Try.func51, Try.ntmps51
    go_wp2_with fail
    refine HC.out.mono ?_
    rintro en w1 ⟨rfl, h1, hg1⟩
    have HF : Hid (StR w1 rb B (.inl e) ∧ w.grownBy w1 (some rb)) := Lib.hid ⟨⟨HE.out, r, h1⟩, hg1⟩
    clear h1 hg1 HC
    go_wp2
    refine wp_loop_rounds 1 ?_
    rw [rounds_succ]
    go_wp2
    go_ret
    exact ⟨none, 0, 0, rfl, HF.out.1, HF.out.2, fun x r hx => by cases hx⟩
  | inr rest =>
    obtain ⟨hr, hb, hl⟩ := h
    have HC := Lib.hid (count_any hr hb hl)
    have HBY := Lib.hid hb
    have HL := Lib.hid hl
    clear hr hb hl
    go_enter Try.func51, Try.ntmps51
    go_wp2_with fail
    refine HC.out.mono ?_
    rintro en w1 ⟨n, rfl, hn⟩
    cases hres : cnt rest with
    | inl e =>
      rw [hres] at hn
      obtain ⟨hg, rfl, r, hrd⟩ := hn
      have HE : Hid (upS (lsL pinP) (.inr rest) = .inl e) := Lib.hid (by show lsL pinP rest = _; unfold lsL; rw [hres])
      have HF : Hid (StR w1 rb B (.inl e) ∧ w.grownBy w1 (some rb)) := Lib.hid ⟨⟨cnt_err hres, r, hrd⟩, hg⟩
      clear hg hrd hres HC
      go_wp2
      refine wp_loop_rounds 1 ?_
      rw [rounds_succ]
      go_wp2
      go_ret
      rw [HE.out]
      exact ⟨none, 0, 0, rfl, HF.out.1, HF.out.2, fun x r hx => by cases hx⟩
    | inr p =>
      obtain ⟨m, r0⟩ := p
      rw [hres] at hn
      obtain ⟨hg, rfl, hrd⟩ := hn
      obtain ⟨hnum, hm⟩ := cnt_ok hres
      have hrl1 := rest_len HBY.out hnum
      have hLL := HL.out
      have HST : Hid (StR w1 rb B (.inr r0)) := Lib.hid ⟨hrd, num_bytes HBY.out hnum, by omega⟩
      have HB1 : Hid (w.grownBy w1 (some rb)) := Lib.hid hg
      have HLS : Hid (upS (lsL pinP) (.inr rest) = rdL pinP m r0) := Lib.hid (by show lsL pinP rest = _; unfold lsL; rw [hres])
      have hz1 := hg.size
      have hmm : m ≤ 1000000000 := by omega
      clear hg hrd hres hnum hLL hrl1 HC hm
      go_wp2
      go_loopw [5, 6, 9] (fun v5 _ v9 wr => ∃ (j : Nat) (l : List _) (r : List Int) (A : Option Addr) (c : Nat), j ≤ m ∧ v9 = .int .i64 (j : Int) ∧ v5 = .slice A j c ∧ Hid (OwnG 134 2 pnI wr w.heap.size (.slice A j c) l) ∧ Hid (l.length = j) ∧ Hid (StR wr rb B (.inr r)) ∧ Hid (contL l (rdL pinP (m - j) r) = rdL pinP m r0) ∧ Hid (w.grownBy wr (some rb)) ∧ rb < wr.heap.size) (fun _ _ v _ => m - (intOf v).toNat)
      case atStart => exact ⟨0, [], r0, none, 0, Nat.zero_le _, rfl, rfl, Lib.hid (OwnG.nil_ _ _ _ _ _), Lib.hid rfl, HST, Lib.hid (by rw [contL_nil]; rfl), HB1, by omega⟩
      case round =>
        obtain ⟨j, l, r, A, c, hj, rfl, rfl, HO, HLE, HR, HN, HB, hlt⟩ := hrel
        by_cases hjm : j < m
        · have hd : decide ((j : Int) < (m : Int)) = true := by simp; omega
          have hadd : IntKind.i64.wrap ((j : Int) + 1) = ((j + 1 : Nat) : Int) := by rw [IntWalk.i64_in _ (by omega)]; omega
          have HNG := Lib.hid (pinS_any HR.out hlt)
          go_wp2_with fail
          refine HNG.out.mono ?_
          rintro en w2 ⟨sv, A3, n3, c4, rfl, hs, hg, hval⟩
          clear HNG
          have e0 : upS pinP (.inr r) = pinP r := rfl
          rw [e0] at hs hval
          cases hres : pinP r with
          | inl e =>
            rw [hres] at hs
            obtain ⟨he, r2, hrd⟩ := hs
            have hne : (e != 0) = true := by rcases he with h | h <;> subst h <;> rfl
            have HF : Hid (rdL pinP m r0 = .inl e) := Lib.hid (by
              rw [← HN.out, show m - j = (m - j - 1) + 1 by omega, rdL_err hres]; rfl)
            have HF2 : Hid (StR (w2.alloc (.cells #[.int .i64 sv, .slice A3 n3 c4] 134)) rb B (.inl e) ∧ w.grownBy (w2.alloc (.cells #[.int .i64 sv, .slice A3 n3 c4] 134)) (some rb)) := Lib.hid ⟨⟨he, r2, (hrd.alloc _)⟩, grown_add (grown_add HB.out hg) (grown_alloc1 w2 _ _)⟩
            obtain ⟨A', c', hrow, _, _⟩ := ((hrd.alloc _) : Rdr (w2.alloc (.cells #[.int .i64 sv, .slice A3 n3 c4] 134)) rb B r2 e).row
            obtain ⟨hc0, hc1, _, _⟩ := row2 hrow
            clear hg hrd hres hrow he hval e0
            go_wp2
            go_ret
            rw [HLS.out, HF.out]
            exact ⟨none, 0, 0, rfl, HF2.out.1, HF2.out.2, fun x r hx => by cases hx⟩
          | inr p =>
            obtain ⟨x, r2⟩ := p
            rw [hres] at hs
            have HIT := Lib.hid (hval x r2 hres)
            have HS2 : Hid (StR w2 rb B (.inr r2)) := Lib.hid hs
            obtain ⟨hrd, _, _⟩ := hs
            have HB2 : Hid (w.grownBy w2 (some rb)) := Lib.hid (grown_add HB.out hg)
            have hzz := HB2.out.size
            have hzr := HB.out.size
            have HO2 : Hid (OwnG 134 2 pnI w2 w.heap.size (.slice A j c) l) := Lib.hid (HO.out.turn pn_turns hg (fun g hg' => by injection hg' with hg'; omega))
            have HN2 : Hid (contL (l ++ [x]) (rdL pinP (m - (j + 1)) r2) = rdL pinP m r0) := Lib.hid (by
              rw [← HN.out, show m - j = (m - (j + 1)) + 1 by omega, rdL_step hres, contL_contL])
            have HAP : Hid (pnI ((w2.alloc (.cells #[.int .i64 sv, .slice A3 n3 c4] 134)).alloc (.cells #[.int .i64 sv, .slice A3 n3 c4] 134)) (Ap w.heap.size (.slice A j c)) [.int .i64 sv, .slice A3 n3 c4] x) := Lib.hid (pn_turns.go HIT.out (FrM.of_grown (row := none) (grown_add (grown_alloc1 w2 _ _) (grown_alloc1 _ _ _)) (fun g hg => by cases hg)) (fun b hb => .inl (by
              rcases hb with hb | hb
              · exact (HO.out.ge b hb).2
              · omega)))
            have hlt2 := hrd.here
            have hb1 := heap_new (w2.alloc (.cells #[.int .i64 sv, .slice A3 n3 c4] 134)) (.cells #[.int .i64 sv, .slice A3 n3 c4] 134)
            have hsz : (w2.alloc (.cells #[.int .i64 sv, .slice A3 n3 c4] 134)).heap.size = w2.heap.size + 1 := by simp
            rw [hsz] at hb1
            have HD := Lib.hid (cells_of hb1)
            have hwe : ((w2.alloc (.cells #[.int .i64 sv, .slice A3 n3 c4] 134)).alloc (.cells #[.int .i64 sv, .slice A3 n3 c4] 134)).heap.size = w2.heap.size + 2 := by simp
            obtain ⟨A', c', hrow, _, _⟩ := ((hrd.alloc _) : Rdr (w2.alloc (.cells #[.int .i64 sv, .slice A3 n3 c4] 134)) rb B r2 0).row
            obtain ⟨hc0, hc1, _, _⟩ := row2 hrow
            have HLN := HLE.out
            clear hg hrd hres hrow hb1 hval e0 HIT
            go_wp2_with (at_builtin; refine wplG_app pn_turns Try.underlying50 info_getPins_any rfl (by decide) (by decide) rfl (.tmp 18) (.tmp 20) rfl w.heap.size (.slice A j c) l rfl ((HO2.out.alloc pn_turns _).alloc pn_turns _) (w2.heap.size + 1) [.int .i64 sv, .slice A3 n3 c4] x rfl rfl HD.out (by intro u hu; simp at hu; (first | (rcases hu with rfl | rfl <;> rfl) | (subst hu; rfl))) HAP.out (by omega) (by omega) ?_; intro g c3 w3 hown3 hgr3)
            have HO3 : Hid (OwnG 134 2 pnI w3 w.heap.size (.slice (some ⟨g, 0, none⟩) (l.length + 1) c3) (l ++ [x])) := Lib.hid hown3
            have HR3 : Hid (StR w3 rb B (.inr r2)) := Lib.hid (((HS2.out.grown (row := none) (grown_alloc1 _ _ none) (fun g hg => by cases hg)).grown (row := none) (grown_alloc1 _ _ none) (fun g hg => by cases hg)).grown hgr3 (fun g hg => by have := (HO2.out.ge g hg).1; omega))
            have HB3 : Hid (w.grownBy w3 (some rb)) := Lib.hid (grown_new (grown_add (grown_add HB2.out (grown_alloc1 w2 _ _)) (grown_alloc1 _ _ _)) hgr3 (fun g hg => (HO2.out.ge g hg).1))
            have hz3 := hgr3.size
            have hlt3 : rb < w3.heap.size := by omega
            rw [HLN] at HO3
            clear hown3 hgr3 hz3
            go_roundw
            case rel => exact ⟨j + 1, l ++ [x], r2, some ⟨g, 0, none⟩, c3, by omega, rfl, rfl, HO3, Lib.hid (by rw [List.length_append, HLE.out]; rfl), HR3, HN2, HB3, hlt3⟩
            case measure => simp [intOf]; omega
        · have hd : decide ((j : Int) < (m : Int)) = false := by simp; omega
          obtain rfl : j = m := by omega
          have HF : Hid (rdL pinP j r0 = .inr (l, r)) := Lib.hid (by
            rw [← HN.out, Nat.sub_self]
            simp [rdL, contL])
          go_wp2
          go_ret
          rw [HLS.out, HF.out]
          exact ⟨A, _, c, rfl, HR.out, HB.out, fun x r hx => by
            injection hx with hx
            injection hx with e1 e2
            subst e1
            exact HO.out.item pn_turns (fun b hb => .inl hb)⟩
end
end Go.Proofs.Ytmfoammkcokcoaa
