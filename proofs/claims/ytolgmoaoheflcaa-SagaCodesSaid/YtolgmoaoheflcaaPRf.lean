/-
  CONTRACTS of the document's reader of plans: the reader's state alone.
-/
import Derived.Test.YtolgmoaoheflcaaPPp
import Derived.Deep.AppendLies
import Derived.Deep.RegionLaw
import Derived.BigQuiet
namespace Go.Proofs.Ytolgmoaoheflcaa
open Go.RowKit
open ByteP CodeP
set_option linter.unusedVariables false
set_option maxRecDepth 10000
/-- What a list of numbers leaves of the document's reader. -/
def LsqG (w0 w : World) (rb B : Nat) (bs : List Int) (res : Sum Int (List Nat × List Int)) : Prop :=
  w0.grownBy w (some rb) ∧ match res with
    | .inl e => ∃ p, Rfr w rb B bs p e
    | .inr (l, r) => ∃ p, Rfr w rb B bs p 0 ∧ bs.drop p = r
set_option maxHeartbeats 2000000 in
theorem intsRG_any {w : World} {rb B p0 : Nat} {bs : List Int} (h : Rfr w rb B bs p0 0) (hb : Bytes bs) (hl : bs.length ≤ 1000000000) :
    Calls Try.prog 47 #[.pointer (some ⟨rb, 0, none⟩)] w fun en w' => ∃ A n c, en = .returned (.slice A n c) ∧ LsqG w w' rb B bs (lst (bs.drop p0)) := by
  have H := Lib.hid (sizeR_any h hb hl)
  have HBY := Lib.hid hb
  have hrl := h.here
  clear h hb
  go_enter Try.func47, Try.ntmps47
  go_wp2_with fail
  refine H.out.mono ?_
  rintro en w1 ⟨n, rfl, hn⟩
  cases hres : cnt (bs.drop p0) with
  | inl e =>
    rw [hres] at hn
    obtain ⟨hg, rfl, q, hrf⟩ := hn
    have HF : Hid (LsqG w w1 rb B bs (lst (bs.drop p0))) := Lib.hid (by
      have e2 : lst (bs.drop p0) = .inl e := by unfold lst; rw [hres]
      rw [e2]
      exact ⟨hg, q, hrf⟩)
    clear hg hrf hres
    go_wp2
    refine wp_loop_rounds 1 ?_
    rw [rounds_succ]
    go_wp2
    go_ret
    exact ⟨none, 0, 0, rfl, HF.out⟩
  | inr pr =>
    obtain ⟨m, r0⟩ := pr
    rw [hres] at hn
    obtain ⟨hg, rfl, q, hrf, hq⟩ := hn
    obtain ⟨hnum, hm⟩ := cnt_ok hres
    have HB1 : Hid (w.grownBy w1 (some rb)) := Lib.hid hg
    have hml : m ≤ 1000000000 := by
      have h1 := hrf.le
      have h2 : r0.length = bs.length - q := by rw [← hq, List.length_drop]
      omega
    have HL : Hid (lst (bs.drop p0) = rdN m r0) := Lib.hid (by unfold lst; rw [hres])
    have HST : Hid (LstG w1 rb B bs (rdN m r0) m 0 []) := Lib.hid (.inl ⟨[], q, rfl, rfl, hrf, by rw [cont_nil, hq]; rfl⟩)
    have hz1 := hg.size
    clear hg hrf hres hnum hq
    go_wp2
    go_loopw [3, 5] (fun v3 v5 wr => ∃ (j : Nat) (xs : List Int) (A : Option Addr) (c : Nat), j ≤ m ∧ v5 = .int .i64 (j : Int) ∧ v3 = .slice A j c ∧ Hid (Own wr w.heap.size (.slice A j c) j xs) ∧ Hid (LstG wr rb B bs (rdN m r0) m j xs) ∧ Hid (w.grownBy wr (some rb)) ∧ rb < wr.heap.size) (fun _ v _ => m - (intOf v).toNat)
    case atStart => exact ⟨0, [], none, 0, Nat.zero_le _, rfl, rfl, Lib.hid (Own.nil_ _ _), HST, HB1, by omega⟩
    case round =>
      obtain ⟨j, xs, A, c, hj, rfl, rfl, HO, HG, HB, hlt⟩ := hrel
      rcases HG.out with ⟨l, p, hxs, hlj, hrf, hcont⟩ | ⟨e, p, he, hrf, hinl⟩
      · obtain ⟨A', c', hrow, _⟩ := hrf.row
        obtain ⟨hc0, hc1, hc2, _, _⟩ := row3E hrow
        have HXS := Lib.hid hxs
        have HLJ := Lib.hid hlj
        have HRF := Lib.hid hrf
        have HCT := Lib.hid hcont
        clear hxs hlj hrf hcont hrow
        by_cases hjm : j < m
        · have hd : decide ((j : Int) < (m : Int)) = true := by simp; omega
          have hadd : IntKind.i64.wrap ((j : Int) + 1) = ((j + 1 : Nat) : Int) := by rw [IntWalk.i64_in _ (by omega)]; omega
          have HNG := Lib.hid (numR_go HRF.out HBY.out hl)
          go_wp2_with fail
          refine HNG.out.mono ?_
          rintro en w2 ⟨x, rfl, hx⟩
          clear HNG
          have hg2 : w.heap.size ≤ w.heap.size ∧ wr.grownBy w2 (some rb) := ⟨Nat.le_refl _, hx.1⟩
          have HB2 : Hid (w.grownBy w2 (some rb)) := Lib.hid (grown_add HB.out hg2.2)
          have hzz := HB2.out.size
          have HO2 : Hid (Own w2 w.heap.size (.slice A j c) j xs) := Lib.hid (HO.out.other hg2.2 (fun g hg' e => by injection e with e; have := HO.out.ge g hg'; omega))
          have hlt2 : rb < w2.heap.size := Nat.lt_of_lt_of_le hlt hg2.2.size
          have HGN : Hid (∀ (o : Obj) (w3 : World), (w2.alloc o).grownBy w3 (Value.slice A j c).ownBlock → LstG w3 rb B bs (rdN m r0) m (j + 1) (xs ++ [x])) := Lib.hid (fun o w3 hg3 => by
            have hkeep : ∀ {q : Nat} {e : Int}, Rfr w2 rb B bs q e → Rfr w3 rb B bs q e := fun hr => (hr.alloc o).grown hg3 (fun g hg => by have := HO2.out.ge g hg; omega)
            cases hres : num (bs.drop p) with
            | inl e =>
              rw [hres] at hx
              obtain ⟨_, _, q2, hr2⟩ := hx
              refine .inr ⟨e, q2, num_err hres, hkeep hr2, ?_⟩
              rw [← HCT.out, show m - j = (m - j - 1) + 1 by omega, rdN_err hres]; rfl
            | inr pr =>
              obtain ⟨y, r2⟩ := pr
              rw [hres] at hx
              obtain ⟨_, hxy, q2, hr2, hq2⟩ := hx
              refine .inl ⟨l ++ [y], q2, ?_, ?_, hkeep hr2, ?_⟩
              · rw [casts_snoc, HXS.out, hxy]
              · rw [List.length_append, HLJ.out]; rfl
              · rw [← HCT.out, show m - j = (m - (j + 1)) + 1 by omega, rdN_step hres, cont_cont, hq2])
          have hcl : (w2.alloc (.cells #[.int .i64 x] 3)).cell? ⟨w2.heap.size, 0, none⟩ = some (.int .i64 x) := by
            have := heap_alloc_new w2 (.cells #[.int .i64 x] 3)
            simp only [World.cell?, this]; rfl
          have HCL := Lib.hid hcl
          clear hg2 hcl hx
          go_wp2_with (at_builtin; refine wpl_app rfl (.tmp 20) (.tmp 23) rfl w.heap.size (.slice A j c) j xs rfl (HO2.out.alloc _) w2.heap.size x rfl HCL.out (by omega) (by simp; omega) ?_; intro g c2 w3 hown3 hge3 hgr3 hat3)
          have HO3 : Hid (Own w3 w.heap.size (.slice (some ⟨g, 0, none⟩) (j + 1) c2) (j + 1) (xs ++ [x])) := Lib.hid hown3
          have HG3 := Lib.hid (HGN.out _ _ hgr3)
          have HB3 : Hid (w.grownBy w3 (some rb)) := Lib.hid (grown_new (grown_add HB2.out (grown_alloc1 w2 _ _)) hgr3 (fun g hg => HO2.out.ge g hg))
          have hz3 := hgr3.size
          have hlt3 : rb < w3.heap.size := by simp at hz3; omega
          clear hown3 hgr3 hat3 hz3
          go_roundw
          case rel => exact ⟨j + 1, xs ++ [x], _, _, by omega, rfl, rfl, HO3, HG3, HB3, hlt3⟩
          case measure => simp [intOf]; omega
        · have hd : decide ((j : Int) < (m : Int)) = false := by simp; omega
          obtain rfl : j = m := by omega
          have HF : Hid (LsqG w wr rb B bs (lst (bs.drop p0))) := Lib.hid (by
            have e2 : lst (bs.drop p0) = .inr (l, bs.drop p) := by
              rw [HL.out, ← HCT.out, Nat.sub_self]
              simp [rdN, cont]
            rw [e2]
            exact ⟨HB.out, p, HRF.out, rfl⟩)
          go_wp2
          go_ret
          exact ⟨A, _, c, rfl, HF.out⟩
      · obtain ⟨A', c', hrow, _⟩ := hrf.row
        obtain ⟨hc0, hc1, hc2, _, _⟩ := row3E hrow
        have hne : (e == 0) = false := by rcases he with h | h <;> subst h <;> rfl
        have HF : Hid (LsqG w wr rb B bs (lst (bs.drop p0))) := Lib.hid (by
          rw [HL.out, hinl]
          exact ⟨HB.out, p, hrf⟩)
        clear hrf hinl he hrow
        by_cases hjm : j < m
        · have hd : decide ((j : Int) < (m : Int)) = true := by simp; omega
          go_wp2
          go_ret
          exact ⟨A, _, c, rfl, HF.out⟩
        · have hd : decide ((j : Int) < (m : Int)) = false := by simp; omega
          go_wp2
          go_ret
          exact ⟨A, _, c, rfl, HF.out⟩
theorem sizeR_err {w : World} {rb B p : Nat} {bs : List Int} {e : Int} (h : Rfr w rb B bs p e) (he : e ≠ 0) :
    Calls Try.prog 66 #[.pointer (some ⟨rb, 0, none⟩)] w fun en w' => en = .returned (.int .i64 0) ∧ Rfr w' rb B bs p e ∧ w.grownBy w' (some rb) := by
  have H := Lib.hid (numR_err h he)
  have hne : (e == 0) = false := beq_eq_false_iff_ne.2 he
  have hne2 : (e != 0) = true := by simp [he]
  clear h
  go_enter Try.func66, Try.ntmps66
  go_wp2_with fail
  refine H.out.mono ?_
  rintro en w1 ⟨rfl, hr, hg⟩
  obtain ⟨A, c, hrow, _⟩ := hr.row
  obtain ⟨hc0, hc1, hc2, _, _⟩ := row3E hrow
  have HF : Hid (∀ k, Rfr (w1.drewN k) rb B bs p e ∧ w.grownBy (w1.drewN k) (some rb)) := Lib.hid (fun k => ⟨hr.drewN k, grown_drewN hg k⟩)
  clear hr hg H hrow
  go_wp2_with fail
  go_quiet (fail)
  go_wp2
  go_ret
  exact ⟨rfl, HF.out _⟩
theorem intsR_err {w : World} {rb B p : Nat} {bs : List Int} {e : Int} (h : Rfr w rb B bs p e) (he : e ≠ 0) :
    Calls Try.prog 47 #[.pointer (some ⟨rb, 0, none⟩)] w fun en w' => en = .returned (.slice none 0 0) ∧ Rfr w' rb B bs p e ∧ w.grownBy w' (some rb) := by
  have H := Lib.hid (sizeR_err h he)
  clear h
  go_enter Try.func47, Try.ntmps47
  go_wp2_with fail
  refine H.out.mono ?_
  rintro en w1 ⟨rfl, hr, hg⟩
  have HR := Lib.hid hr
  have HG := Lib.hid hg
  clear hr hg H
  go_wp2
  refine wp_loop_rounds 1 ?_
  rw [rounds_succ]
  go_wp2
  go_ret
  exact ⟨rfl, HR.out, HG.out⟩
/-- The document's reader's state. -/
def StQ (w : World) (rb B : Nat) (bs : List Int) : Sum Int (List Int) → Prop
  | .inl e => (e = 12 ∨ e = 13) ∧ ∃ p, Rfr w rb B bs p e
  | .inr r => ∃ p, Rfr w rb B bs p 0 ∧ bs.drop p = r
theorem StQ.grown {w w' : World} {rb B : Nat} {bs : List Int} {s : Sum Int (List Int)} (h : StQ w rb B bs s) {row : Option Nat} (hg : w.grownBy w' row) (hr : ∀ g, row = some g → rb < g) : StQ w' rb B bs s := by
  cases s with
  | inl e => exact ⟨h.1, h.2.choose, h.2.choose_spec.grown hg hr⟩
  | inr r => exact ⟨h.choose, h.choose_spec.1.grown hg hr, h.choose_spec.2⟩
theorem intsRS_any {w : World} {rb B : Nat} {bs : List Int} {s : Sum Int (List Int)} (h : StQ w rb B bs s) (hb : Bytes bs) (hl : bs.length ≤ 1000000000) :
    Calls Try.prog 47 #[.pointer (some ⟨rb, 0, none⟩)] w fun en w' => ∃ A n c, en = .returned (.slice A n c) ∧ StQ w' rb B bs (restS (lstS s)) ∧ w.grownBy w' (some rb) := by
  cases s with
  | inl e =>
    obtain ⟨he, p, hr⟩ := h
    refine (intsR_err hr (by omega)).mono ?_
    rintro en w1 ⟨rfl, hr, hg⟩
    exact ⟨none, 0, 0, rfl, ⟨he, p, hr⟩, hg⟩
  | inr r =>
    obtain ⟨p, hr, hp⟩ := h
    refine (intsRG_any hr hb hl).mono ?_
    rintro en w1 ⟨A, n, c, rfl, hg, hx⟩
    refine ⟨A, n, c, rfl, ?_, hg⟩
    subst hp
    show StQ w1 rb B bs (restS (lst (bs.drop p)))
    cases hres : lst (bs.drop p) with
    | inl e => rw [hres] at hx; exact ⟨lst_err (bytes_drop hb p) hres, hx⟩
    | inr q => obtain ⟨l, r2⟩ := q; rw [hres] at hx; exact hx
/-- A loop's state: so many pairs are read, or one had an error. -/
def LstGP (w : World) (rb B : Nat) (bs : List Int) (res : Sum Int (List (Nat × Nat) × List Int)) (m j : Nat) : Prop :=
  (∃ l p, l.length = j ∧ Rfr w rb B bs p 0 ∧ contP l (rdP (m - j) (bs.drop p)) = res) ∨ (∃ e p, (e = 12 ∨ e = 13) ∧ Rfr w rb B bs p e ∧ res = .inl e)
theorem LstGP.grown {w w' : World} {rb B m j : Nat} {bs : List Int} {res : Sum Int (List (Nat × Nat) × List Int)} (h : LstGP w rb B bs res m j) {row : Option Nat} (hg : w.grownBy w' row) (hr : ∀ g, row = some g → rb < g) : LstGP w' rb B bs res m j := by
  rcases h with ⟨l, p, h1, h2, h3⟩ | ⟨e, p, h1, h2, h3⟩
  · exact .inl ⟨l, p, h1, h2.grown hg hr, h3⟩
  · exact .inr ⟨e, p, h1, h2.grown hg hr, h3⟩
theorem LstGP.done {w : World} {rb B m : Nat} {bs : List Int} {res : Sum Int (List (Nat × Nat) × List Int)} (h : LstGP w rb B bs res m m) : StQ w rb B bs (restS res) := by
  rcases h with ⟨l, p, h1, h2, h3⟩ | ⟨e, p, h1, h2, h3⟩
  · rw [← h3, Nat.sub_self]
    simp only [rdP, contP]
    exact ⟨p, h2, rfl⟩
  · rw [h3]; exact ⟨h1, p, h2⟩
theorem sizeRS_any {w : World} {rb B : Nat} {bs : List Int} {s : Sum Int (List Int)} (h : StQ w rb B bs s) (hb : Bytes bs) (hl : bs.length ≤ 1000000000) :
    Calls Try.prog 66 #[.pointer (some ⟨rb, 0, none⟩)] w fun en w' => ∃ m : Nat, en = .returned (.int .i64 (m : Int)) ∧ m ≤ 1000000000 ∧ LstGP w' rb B bs (lstPS s) m 0 ∧ w.grownBy w' (some rb) := by
  cases s with
  | inl e =>
    obtain ⟨he, p, hr⟩ := h
    refine (sizeR_err hr (by omega)).mono ?_
    rintro en w1 ⟨rfl, hr, hg⟩
    exact ⟨0, rfl, by omega, .inr ⟨e, p, he, hr, rfl⟩, hg⟩
  | inr r =>
    obtain ⟨p, hr, hp⟩ := h
    subst hp
    refine (sizeR_any hr hb hl).mono ?_
    rintro en w1 ⟨n, rfl, hg, hx⟩
    have e0 : lstPS (.inr (bs.drop p)) = lstP (bs.drop p) := rfl
    cases hres : cnt (bs.drop p) with
    | inl e =>
      rw [hres] at hx
      obtain ⟨rfl, q, hq⟩ := hx
      have e1 : lstP (bs.drop p) = .inl e := by unfold lstP; rw [hres]
      exact ⟨0, rfl, by omega, .inr ⟨e, q, cnt_err hres, hq, by rw [e0, e1]⟩, hg⟩
    | inr pr =>
      obtain ⟨m, r0⟩ := pr
      rw [hres] at hx
      obtain ⟨rfl, q, hq, hd⟩ := hx
      have e1 : lstP (bs.drop p) = rdP m r0 := by unfold lstP; rw [hres]
      have hm := (cnt_ok hres).2
      have h2 : r0.length = bs.length - q := by rw [← hd, List.length_drop]
      exact ⟨m, rfl, by omega, .inl ⟨[], q, rfl, hq, by rw [contP_nil, hd, e0, e1]; rfl⟩, hg⟩
/-- Two numbers of a round. -/
theorem numRS_one {w : World} {rb B m j p : Nat} {bs : List Int} {res : Sum Int (List (Nat × Nat) × List Int)} {l : List (Nat × Nat)} (hlj : l.length = j) (hj : j < m) (hr : Rfr w rb B bs p 0) (hc : contP l (rdP (m - j) (bs.drop p)) = res) (hb : Bytes bs) (hl : bs.length ≤ 1000000000) :
    Calls Try.prog 67 #[.pointer (some ⟨rb, 0, none⟩)] w fun en w1 => ∃ x : Nat, en = .returned (.int .i64 (x : Int)) ∧ w.grownBy w1 (some rb) ∧
      ∀ k, Calls Try.prog 67 #[.pointer (some ⟨rb, 0, none⟩)] (w1.drewN k) fun en w2 => ∃ y : Nat, en = .returned (.int .i64 (y : Int)) ∧ w1.grownBy w2 (some rb) ∧ LstGP w2 rb B bs res m (j + 1) := by
  refine (numR_go hr hb hl).mono ?_
  rintro en w1 ⟨n, rfl, hg, hx⟩
  cases hres : num (bs.drop p) with
  | inl e =>
    rw [hres] at hx
    obtain ⟨rfl, q, hq⟩ := hx
    have he := num_err hres
    refine ⟨0, rfl, hg, fun k => (numR_err (hq.drewN k) (by omega)).mono ?_⟩
    rintro en w2 ⟨rfl, hr2, hg2⟩
    refine ⟨0, rfl, grown_add (grown_drewN (World.grownBy.refl w1 _) k) hg2, .inr ⟨e, q, he, hr2, ?_⟩⟩
    rw [← hc, show m - j = (m - j - 1) + 1 by omega, rdP_err (rd2_err hres)]; rfl
  | inr pr =>
    obtain ⟨x, r1⟩ := pr
    rw [hres] at hx
    obtain ⟨rfl, q, hq, hd⟩ := hx
    refine ⟨x, rfl, hg, fun k => (numR_go (hq.drewN k) hb hl).mono ?_⟩
    rintro en w2 ⟨n2, rfl, hg2, hx2⟩
    have hgg := grown_add (grown_drewN (World.grownBy.refl w1 (some rb)) k) hg2
    rw [hd] at hx2
    cases hres2 : num r1 with
    | inl e =>
      rw [hres2] at hx2
      obtain ⟨rfl, q2, hq2⟩ := hx2
      refine ⟨0, rfl, hgg, .inr ⟨e, q2, num_err hres2, hq2, ?_⟩⟩
      rw [← hc, show m - j = (m - j - 1) + 1 by omega, rdP_err (rd2_err2 hres hres2)]; rfl
    | inr pr =>
      obtain ⟨y, r2⟩ := pr
      rw [hres2] at hx2
      obtain ⟨rfl, q2, hq2, hd2⟩ := hx2
      refine ⟨y, rfl, hgg, .inl ⟨l ++ [(x, y)], q2, by rw [List.length_append, hlj]; rfl, hq2, ?_⟩⟩
      rw [← hc, show m - j = (m - (j + 1)) + 1 by omega, rdP_step (rd2_ok hres hres2), contP_contP, hd2]
end Go.Proofs.Ytolgmoaoheflcaa
