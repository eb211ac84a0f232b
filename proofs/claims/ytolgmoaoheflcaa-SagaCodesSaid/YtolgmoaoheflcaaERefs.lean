/-
  CONTRACTS of the document's reader of layer 12: lists of numbers, the end; two lists of bytes, of numbers.
-/
import Derived.Test.YtolgmoaoheflcaaERef
namespace Go.Proofs.Ytolgmoaoheflcaa
open Go.RowKit
open ByteP CodeP
set_option linter.unusedVariables false
set_option maxRecDepth 10000

set_option maxHeartbeats 1000000 in
theorem sizeR_any {w : World} {rb B p : Nat} {bs : List Int} (h : Rfr w rb B bs p 0) (hb : Bytes bs) (hl : bs.length ≤ 1000000000) :
    Calls Try.prog 66 #[.pointer (some ⟨rb, 0, none⟩)] w fun en w' => ∃ n, en = .returned (.int .i64 n) ∧ NumQ w w' rb B bs (cnt (bs.drop p)) n := by
  have H := Lib.hid (numR_go h hb hl)
  clear h
  go_enter Try.func66, Try.ntmps66
  go_wp2_with fail
  refine H.out.mono ?_
  rintro en w1 ⟨n, rfl, hn⟩
  cases hres : num (bs.drop p) with
  | inl e =>
    rw [hres] at hn
    obtain ⟨hg, rfl, q, hrf⟩ := hn
    have he := num_err hres
    have hne : (e == 0) = false := by rcases he with h | h <;> subst h <;> rfl
    have hne2 : (e != 0) = true := by rcases he with h | h <;> subst h <;> rfl
    have HF : Hid (∀ k, NumQ w (w1.drewN k) rb B bs (cnt (bs.drop p)) 0) := Lib.hid (fun k => by
      have e2 : cnt (bs.drop p) = .inl e := by unfold cnt; rw [hres]
      rw [e2]; exact ⟨grown_drewN hg k, rfl, q, hrf.drewN k⟩)
    obtain ⟨A, c, hrow, _⟩ := hrf.row
    obtain ⟨hc0, hc1, hc2, _, _⟩ := row3E hrow
    clear hg hrf hrow hres he
    go_wp2_with fail
    go_quiet (fail)
    go_wp2
    go_ret
    exact ⟨0, rfl, HF.out _⟩
  | inr pr =>
    obtain ⟨m, r⟩ := pr
    rw [hres] at hn
    obtain ⟨hg, rfl, q, hrf, hq⟩ := hn
    have hle := hrf.le
    have hrl : r.length = bs.length - q := by rw [← hq, List.length_drop]
    have HRF := Lib.hid hrf
    have HG := Lib.hid hg
    have HQ := Lib.hid hq
    obtain ⟨A, c, hrow, _⟩ := hrf.row
    obtain ⟨hc0, hc1, hc2, _, _⟩ := row3E hrow
    have hsub : IntKind.i64.wrap ((bs.length : Int) - (q : Int)) = (bs.length : Int) - (q : Int) := IntWalk.i64_in _ (by omega)
    by_cases hlt : r.length < m
    · have hz : decide ((bs.length : Int) - (q : Int) < (m : Int)) = true := by simp; omega
      have HC : Hid (cnt (bs.drop p) = .inl 13) := Lib.hid (by unfold cnt; rw [hres]; simp only; rw [if_pos hlt])
      have HFL := Lib.hid (fun d => failR_any (HRF.out.drewN d) 13)
      clear hrf hg hrow hres hq hrl
      go_wp2_with fail
      go_quiet (fail)
      go_wp2_with fail
      refine (HFL.out _).mono ?_
      rintro en w2 ⟨rfl, h2, hg2⟩
      have h2 : Rfr w2 rb B bs q 13 := by simpa using h2
      have HF : Hid (NumQ w w2 rb B bs (cnt (bs.drop p)) 0) := Lib.hid (by rw [HC.out]; exact ⟨grown_add (grown_drewN HG.out _) hg2, rfl, q, h2⟩)
      obtain ⟨A', c', hrow', _⟩ := h2.row
      obtain ⟨hd0, hd1, hd2, _, _⟩ := row3E hrow'
      clear h2 hg2 hrow'
      go_wp2
      go_ret
      exact ⟨0, rfl, HF.out⟩
    · have hz : decide ((bs.length : Int) - (q : Int) < (m : Int)) = false := by simp; omega
      have HF : Hid (∀ k, NumQ w (w1.drewN k) rb B bs (cnt (bs.drop p)) (m : Int)) := Lib.hid (fun k => by
        have e : cnt (bs.drop p) = .inr (m, r) := by unfold cnt; rw [hres]; simp only; rw [if_neg hlt]
        rw [e]; exact ⟨grown_drewN hg k, rfl, q, hrf.drewN k, hq⟩)
      clear hrf hg hrow hres hq hrl
      go_wp2_with fail
      go_quiet (fail)
      go_wp2
      go_ret
      exact ⟨_, rfl, HF.out _⟩
/-- What the document's Ints leaves. -/
def LstQ (w0 w : World) (rb B : Nat) (bs : List Int) (res : Sum Int (List Nat × List Int)) (v : Value) : Prop :=
  Below rb w0 w ∧ match res with
    | .inl e => ∃ p, Rfr w rb B bs p e
    | .inr (l, r) => Own w (rb + 1) v l.length (casts l) ∧ ∃ p, Rfr w rb B bs p 0 ∧ bs.drop p = r
/-- The loop's state: so many are read, or one had an error. -/
def LstG (w : World) (rb B : Nat) (bs : List Int) (res : Sum Int (List Nat × List Int)) (m j : Nat) (xs : List Int) : Prop :=
  (∃ l p, xs = casts l ∧ l.length = j ∧ Rfr w rb B bs p 0 ∧ cont l (rdN (m - j) (bs.drop p)) = res) ∨ (∃ e p, (e = 12 ∨ e = 13) ∧ Rfr w rb B bs p e ∧ res = .inl e)
theorem bytes_drop {bs : List Int} (h : Bytes bs) (p : Nat) : Bytes (bs.drop p) := fun i => by rw [ix_drop]; exact h _
set_option maxHeartbeats 2000000 in
theorem intsR_any {w : World} {rb B p0 : Nat} {bs : List Int} (h : Rfr w rb B bs p0 0) (hb : Bytes bs) (hl : bs.length ≤ 1000000000) :
    Calls Try.prog 47 #[.pointer (some ⟨rb, 0, none⟩)] w fun en w' => ∃ A n c, en = .returned (.slice A n c) ∧ LstQ w w' rb B bs (lst (bs.drop p0)) (.slice A n c) := by
  have H := Lib.hid (sizeR_any h hb hl)
  have HBY := Lib.hid hb
  have hrl := h.here
  clear h hb
  go_enter Try.func47, Try.ntmps47
  go_wp2_with fail
  refine H.out.mono ?_
  rintro en w1 ⟨n, rfl, hn⟩
  cases hres : cnt (bs.drop p0) with
  | inl e =>
    rw [hres] at hn
    obtain ⟨hg, rfl, q, hrf⟩ := hn
    have HF : Hid (LstQ w w1 rb B bs (lst (bs.drop p0)) (.slice none 0 0)) := Lib.hid (by
      have e2 : lst (bs.drop p0) = .inl e := by unfold lst; rw [hres]
      rw [e2]
      exact ⟨(Below.refl _ _).grown hg (by omega) (fun g hg => by injection hg with e; omega), q, hrf⟩)
    clear hg hrf hres
    go_wp2
    refine wp_loop_rounds 1 ?_
    rw [rounds_succ]
    go_wp2
    go_ret
    exact ⟨none, 0, 0, rfl, HF.out⟩
  | inr pr =>
    obtain ⟨m, r0⟩ := pr
    rw [hres] at hn
    obtain ⟨hg, rfl, q, hrf, hq⟩ := hn
    obtain ⟨hnum, hm⟩ := cnt_ok hres
    have HB1 : Hid (Below rb w w1) := Lib.hid ((Below.refl _ _).grown hg (by omega) (fun g hg => by injection hg with e; omega))
    have hml : m ≤ 1000000000 := by
      have h1 := hrf.le
      have h2 : r0.length = bs.length - q := by rw [← hq, List.length_drop]
      omega
    have HL : Hid (lst (bs.drop p0) = rdN m r0) := Lib.hid (by unfold lst; rw [hres])
    have HST : Hid (LstG w1 rb B bs (rdN m r0) m 0 []) := Lib.hid (.inl ⟨[], q, rfl, rfl, hrf, by rw [cont_nil, hq]; rfl⟩)
    have hz1 := hg.size
    clear hg hrf hres hnum hq
    go_wp2
    go_loopw [3, 5] (fun v3 v5 wr => ∃ (j : Nat) (xs : List Int) (A : Option Addr) (c : Nat), j ≤ m ∧ v5 = .int .i64 (j : Int) ∧ v3 = .slice A j c ∧ Hid (Own wr (rb + 1) (.slice A j c) j xs) ∧ Hid (LstG wr rb B bs (rdN m r0) m j xs) ∧ Hid (Below rb w wr) ∧ rb < wr.heap.size) (fun _ v _ => m - (intOf v).toNat)
    case atStart => exact ⟨0, [], none, 0, Nat.zero_le _, rfl, rfl, Lib.hid (Own.nil_ _ _), HST, HB1, by omega⟩
    case round =>
      obtain ⟨j, xs, A, c, hj, rfl, rfl, HO, HG, HB, hlt⟩ := hrel
      rcases HG.out with ⟨l, p, hxs, hlj, hrf, hcont⟩ | ⟨e, p, he, hrf, hinl⟩
      · obtain ⟨A', c', hrow, _⟩ := hrf.row
        obtain ⟨hc0, hc1, hc2, _, _⟩ := row3E hrow
        have HXS := Lib.hid hxs
        have HLJ := Lib.hid hlj
        have HRF := Lib.hid hrf
        have HCT := Lib.hid hcont
        clear hxs hlj hrf hcont hrow
        by_cases hjm : j < m
        · have hd : decide ((j : Int) < (m : Int)) = true := by simp; omega
          have hadd : IntKind.i64.wrap ((j : Int) + 1) = ((j + 1 : Nat) : Int) := by rw [IntWalk.i64_in _ (by omega)]; omega
          have HNG := Lib.hid (numR_go HRF.out HBY.out hl)
          go_wp2_with fail
          refine HNG.out.mono ?_
          rintro en w2 ⟨x, rfl, hx⟩
          clear HNG
          have hg2 : w.heap.size ≤ w.heap.size ∧ wr.grownBy w2 (some rb) := ⟨Nat.le_refl _, hx.1⟩
          have HB2 : Hid (Below rb w w2) := Lib.hid (HB.out.grown hg2.2 (by omega) (fun g hg => by injection hg with e; omega))
          have HO2 : Hid (Own w2 (rb + 1) (.slice A j c) j xs) := Lib.hid (HO.out.other hg2.2 (fun g hg' e => by injection e with e; have := HO.out.ge g hg'; omega))
          have hlt2 : rb < w2.heap.size := Nat.lt_of_lt_of_le hlt hg2.2.size
          have HGN : Hid (∀ (o : Obj) (w3 : World), (w2.alloc o).grownBy w3 (Value.slice A j c).ownBlock → LstG w3 rb B bs (rdN m r0) m (j + 1) (xs ++ [x])) := Lib.hid (fun o w3 hg3 => by
            have hkeep : ∀ {q : Nat} {e : Int}, Rfr w2 rb B bs q e → Rfr w3 rb B bs q e := fun hr => (hr.alloc o).grown hg3 (fun g hg => by have := HO2.out.ge g hg; omega)
            cases hres : num (bs.drop p) with
            | inl e =>
              rw [hres] at hx
              obtain ⟨_, _, q2, hr2⟩ := hx
              refine .inr ⟨e, q2, num_err hres, hkeep hr2, ?_⟩
              rw [← HCT.out, show m - j = (m - j - 1) + 1 by omega, rdN_err hres]; rfl
            | inr pr =>
              obtain ⟨y, r2⟩ := pr
              rw [hres] at hx
              obtain ⟨_, hxy, q2, hr2, hq2⟩ := hx
              refine .inl ⟨l ++ [y], q2, ?_, ?_, hkeep hr2, ?_⟩
              · rw [casts_snoc, HXS.out, hxy]
              · rw [List.length_append, HLJ.out]; rfl
              · rw [← HCT.out, show m - j = (m - (j + 1)) + 1 by omega, rdN_step hres, cont_cont, hq2])
          have hcl : (w2.alloc (.cells #[.int .i64 x] 3)).cell? ⟨w2.heap.size, 0, none⟩ = some (.int .i64 x) := by
            have := heap_alloc_new w2 (.cells #[.int .i64 x] 3)
            simp only [World.cell?, this]; rfl
          have HCL := Lib.hid hcl
          clear hg2 hcl hx
          go_wp2_with (at_builtin; refine wpl_app rfl (.tmp 20) (.tmp 23) rfl (rb + 1) (.slice A j c) j xs rfl (HO2.out.alloc _) w2.heap.size x rfl HCL.out (by omega) (by simp; omega) ?_; intro g c2 w3 hown3 hge3 hgr3 hat3)
          have HO3 : Hid (Own w3 (rb + 1) (.slice (some ⟨g, 0, none⟩) (j + 1) c2) (j + 1) (xs ++ [x])) := Lib.hid hown3
          have HG3 := Lib.hid (HGN.out _ _ hgr3)
          have HB3 : Hid (Below rb w w3) := Lib.hid ((HB2.out.alloc (by omega) _).grown hgr3 (by simp; omega) (fun g hg => by have := HO2.out.ge g hg; omega))
          have hz3 := hgr3.size
          have hlt3 : rb < w3.heap.size := by simp at hz3; omega
          clear hown3 hgr3 hat3 hz3
          go_roundw
          case rel => exact ⟨j + 1, xs ++ [x], _, _, by omega, rfl, rfl, HO3, HG3, HB3, hlt3⟩
          case measure => simp [intOf]; omega
        · have hd : decide ((j : Int) < (m : Int)) = false := by simp; omega
          obtain rfl : j = m := by omega
          have HF : Hid (LstQ w wr rb B bs (lst (bs.drop p0)) (.slice A j c)) := Lib.hid (by
            have e2 : lst (bs.drop p0) = .inr (l, bs.drop p) := by
              rw [HL.out, ← HCT.out, Nat.sub_self]
              simp [rdN, cont]
            rw [e2]
            refine ⟨HB.out, ?_, p, HRF.out, rfl⟩
            rw [HLJ.out, ← HXS.out]
            exact HO.out)
          go_wp2
          go_ret
          exact ⟨A, _, c, rfl, HF.out⟩
      · obtain ⟨A', c', hrow, _⟩ := hrf.row
        obtain ⟨hc0, hc1, hc2, _, _⟩ := row3E hrow
        have hne : (e == 0) = false := by rcases he with h | h <;> subst h <;> rfl
        have HF : Hid (LstQ w wr rb B bs (lst (bs.drop p0)) (.slice A j c)) := Lib.hid (by
          rw [HL.out, hinl]
          exact ⟨HB.out, p, hrf⟩)
        clear hrf hinl he hrow
        by_cases hjm : j < m
        · have hd : decide ((j : Int) < (m : Int)) = true := by simp; omega
          go_wp2
          go_ret
          exact ⟨A, _, c, rfl, HF.out⟩
        · have hd : decide ((j : Int) < (m : Int)) = false := by simp; omega
          go_wp2
          go_ret
          exact ⟨A, _, c, rfl, HF.out⟩
theorem endR_any {w : World} {rb B p : Nat} {bs : List Int} {e : Int} (h : Rfr w rb B bs p e) (hl : bs.length ≤ 1000000000) :
    Calls Try.prog 35 #[.pointer (some ⟨rb, 0, none⟩)] w fun en w' => en = .returned (.int .i64 (endE e (bs.drop p))) ∧ w.grownBy w' (some rb) := by
  obtain ⟨A, c, hrow, _⟩ := h.row
  obtain ⟨hc0, hc1, hc2, _, _⟩ := row3E hrow
  have HFL := Lib.hid (fun d => failR_any (h.drewN d) 12)
  have hle := h.le
  clear h hrow
  by_cases hp : p < bs.length
  · have hz : decide (p < bs.length) = true := decide_eq_true hp
    have hz2 : decide ((p : Int) < (bs.length : Int)) = true := by simp; omega
    have HE : Hid (endE e (bs.drop p) = if e = 0 then 12 else e) := Lib.hid (by
      by_cases he : e = 0
      · subst he
        rw [endE_zero (by intro h; have := congrArg List.length h; simp at this; omega), if_pos rfl]
      · rw [endE_err he, if_neg he])
    rw [HE.out]
    clear HE hp
    obtain ⟨e', HE'⟩ : ∃ e', Hid ((if e = 0 then 12 else e) = e') := ⟨_, Lib.hid rfl⟩
    rw [HE'.out]
    go_enter Try.func35, Try.ntmps35
    go_wp2_with fail
    go_quiet (fail)
    go_wp2_with fail
    refine (HFL.out _).mono ?_
    rintro en w2 ⟨rfl, h2, hg2⟩
    rw [HE'.out] at h2
    have HG : Hid (w.grownBy w2 (some rb)) := Lib.hid (grown_add (grown_drewN (World.grownBy.refl w _) _) hg2)
    obtain ⟨A', c', hrow', _⟩ := h2.row
    obtain ⟨hd0, hd1, hd2, _, _⟩ := row3E hrow'
    clear h2 hg2 hrow'
    go_wp2
    go_ret
    exact ⟨rfl, HG.out⟩
  · have hz : decide (p < bs.length) = false := decide_eq_false hp
    have hz2 : decide ((p : Int) < (bs.length : Int)) = false := by simp; omega
    rw [List.drop_eq_nil_of_le (by omega), endE_nil]
    clear hp
    go_enter Try.func35, Try.ntmps35
    go_wp2_with fail
    go_quiet (fail)
    go_wp2
    go_ret
    exact ⟨rfl, grown_drewN (World.grownBy.refl w _) _⟩
end Go.Proofs.Ytolgmoaoheflcaa
