/-
  CodeReads, over this translation.
-/
import Derived.Test.YtfcabdgidlnljabELaw
namespace Go.Proofs.Ytfcabdgidlnljab
open Go.RowKit
open ByteP CodeP
set_option linter.unusedVariables false
set_option maxRecDepth 10000

theorem capA_of_row {w : World} {a : Option Addr} {len cap : Nat} {zs : List Int}
    (h : (a = none ∧ len = 0 ∧ cap = 0 ∧ zs = []) ∨ ∃ x, a = some x ∧ len ≤ cap ∧ cap ≤ maxLen ∧ zs.length = cap ∧ (∀ i, i < zs.length → w.cell? (x.add i) = some (.int .u8 (zs.getD i 0))) ∧ ∀ n ∈ zs, (Lit.int .u8 n).wf = true) : CapA a len cap := by
  rcases h with ⟨rfl, rfl, rfl, rfl⟩ | ⟨x, rfl, hl, hm, hz, hcell, hwz⟩
  · exact .inl ⟨rfl, rfl, rfl⟩
  · exact .inr ⟨x, rfl, hl, by unfold maxLen at hm; omega⟩
theorem all_of_lst {bs : List Int} {l : List Nat} (h : lst bs = .inr (l, [])) : all bs = .inr l := by unfold all; rw [h]; simp
theorem all_left {bs r : List Int} {l : List Nat} (h : lst bs = .inr (l, r)) (hr : r ≠ []) : all bs = .inl 12 := by unfold all; rw [h]; simp only; rw [if_neg hr]
theorem all_lst_err {bs : List Int} {e : Int} (h : lst bs = .inl e) : all bs = .inl e := by unfold all; rw [h]
set_option maxHeartbeats 2000000 in
theorem law_reads {w : World} {A : Option Addr} {n c : Nat} {bs : List Int} (hr : RdY w w.heap.size A n bs) (hb : Bytes bs) (hc : CapA A n c) (hn0 : n ≤ 9223372036854775807) :
    Calls Try.prog 4 #[.slice A n c] w fun e w' => e = .returned (.bool true) ∧ Below w.heap.size w w' := by
  have HR := Lib.hid hr
  have HBY := Lib.hid hb
  have HC := Lib.hid hc
  have HLL := Lib.hid hr.len
  clear hr hb hc
  go_enter Try.func4, Try.ntmps4
  go_wp2_with fail
  refine (anchorE_any w).mono ?_
  rintro e w1 ⟨rfl, hb1⟩
  have HB1 := Lib.hid hb1
  clear hb1
  by_cases hn : 1000 < n
  · have d1 : decide ((1000 : Int) < (n : Int)) = true := by simp; omega
    go_wp2
    go_ret
    exact ⟨rfl, HB1.out⟩
  have d1 : decide ((1000 : Int) < (n : Int)) = false := by simp; omega
  have hz1 := HB1.out.size
  have hbl : bs.length ≤ 1000 := by have := HLL.out; omega
  have HG := Lib.hid (getN_any (HR.out.below HB1.out) HC.out hz1 HBY.out (by omega))
  go_wp2_with fail
  refine HG.out.mono ?_
  rintro e w2 ⟨A2, n2, c2, er, rfl, hg⟩
  have HB2 : Hid (Below w.heap.size w w2) := Lib.hid (HB1.out.trans (hg.1.mono hz1))
  have HGP : Hid (GetP w1 w2 (all bs) (.slice A2 n2 c2) er) := Lib.hid hg
  clear hg HG
  have hz2 := HB2.out.size
  have HRF : Hid (Rfr (w2.alloc (.cells #[.slice A n c, .int .i64 0, .int .i64 0] 39)) w2.heap.size w.heap.size bs 0 0) := Lib.hid ⟨⟨A, c, by rw [HLL.out]; exact heap_alloc_new w2 _, by rw [HLL.out]; exact (HR.out.below HB2.out).alloc hz2 _⟩, by omega, hz2⟩
  have HB3 : Hid (Below w.heap.size w (w2.alloc (.cells #[.slice A n c, .int .i64 0, .int .i64 0] 39))) := Lib.hid (HB2.out.alloc hz2 _)
  have HBA : Hid (Below w2.heap.size w2 (w2.alloc (.cells #[.slice A n c, .int .i64 0, .int .i64 0] 39))) := Lib.hid ((Below.refl _ _).alloc (Nat.le_refl _) _)
  have HI := Lib.hid (intsR_any HRF.out HBY.out (by omega))
  go_wp2_with fail
  refine HI.out.mono ?_
  rintro e w4 ⟨A4, n4, c4, rfl, hq⟩
  rw [List.drop_zero] at hq
  have HB4 : Hid (Below w.heap.size w w4) := Lib.hid (HB3.out.trans (hq.1.mono hz2))
  have HB24 : Hid (Below w2.heap.size w2 w4) := Lib.hid (HBA.out.trans hq.1)
  clear HI HRF
  cases hres : lst bs with
  | inl e =>
    rw [hres] at hq
    obtain ⟨_, p, hrf⟩ := hq
    have he := lst_err HBY.out hres
    have HE := Lib.hid (endR_any hrf (by omega))
    have hgp := HGP.out
    rw [all_lst_err hres] at hgp
    obtain ⟨_, e2, rfl, _⟩ := hgp
    injection e2 with e3 e4 e5
    subst e3 e4 e5
    have HNE : Hid (endE er (bs.drop p) = er) := Lib.hid (endE_err (by omega) _)
    have hlt := hrf.here
    have HBG : Hid (∀ w5, w4.grownBy w5 (some w2.heap.size) → Below w.heap.size w w5) := Lib.hid (fun w5 hg => HB4.out.grown hg HB4.out.size (fun g hg => by injection hg with e; omega))
    have hne2 : (er != 0) = true := by rcases he with h | h <;> subst h <;> rfl
    have hself : (er == er) = true := by simp
    clear hrf hres he
    go_wp2_with fail
    refine HE.out.mono ?_
    rintro en w5 ⟨rfl, hg5⟩
    rw [HNE.out]
    have HB5 := Lib.hid (HBG.out w5 hg5)
    clear hg5
    go_wp2
    go_ret
    exact ⟨rfl, HB5.out⟩
  | inr pr =>
    obtain ⟨l, r⟩ := pr
    rw [hres] at hq
    obtain ⟨_, hown4, p, hrf, hdr⟩ := hq
    have HE := Lib.hid (endR_any hrf (by omega))
    have hlt := hrf.here
    have HBG : Hid (∀ w5, w4.grownBy w5 (some w2.heap.size) → Below w.heap.size w w5) := Lib.hid (fun w5 hg => HB4.out.grown hg HB4.out.size (fun g hg => by injection hg with e; omega))
    by_cases hr0 : r = []
    · subst hr0
      have hall := all_of_lst hres
      obtain ⟨hl1, hl2, hl3⟩ := all_back HBY.out hall
      have hgp := HGP.out
      rw [hall] at hgp
      obtain ⟨_, rfl, hown2⟩ := hgp
      obtain ⟨A2', c2', e2, _⟩ := Own.shape hown2
      injection e2 with e3 e4 e5
      subst e3 e4 e5
      obtain ⟨A4', c4', e2, _⟩ := Own.shape hown4
      injection e2 with e3 e4 e5
      subst e3 e4 e5
      have hlen : l.length ≤ 1000 := by
        have := congrArg List.length hl3
        unfold encL at this
        rw [List.length_append] at this
        have := encs_ge l
        omega
      have HO2 := Lib.hid hown2
      have HO4 := Lib.hid hown4
      have HL1 := Lib.hid hl1
      have HL3 := Lib.hid hl3
      have HNE : Hid (endE 0 (bs.drop p) = 0) := Lib.hid (by rw [hdr, endE_nil])
      clear hrf hres hall hown2 hown4 hl1 hl3 hdr HGP
      go_wp2_with fail
      refine HE.out.mono ?_
      rintro en w5 ⟨rfl, hg5⟩
      rw [HNE.out]
      have HB5 := Lib.hid (HBG.out w5 hg5)
      have HO45 : Hid (Own w5 (w2.heap.size + 1) (.slice A4 l.length c4) l.length (casts l)) := Lib.hid (HO4.out.other hg5 (fun g hg e => by injection e with e; have := HO4.out.ge g hg; omega))
      have HO25 : Hid (Own w5 w1.heap.size (.slice A2 l.length c2) l.length (casts l)) := Lib.hid ((HO2.out.kept HB24.out).other hg5 (fun g hg e => by
        injection e with e
        have hlt2 : g < w2.heap.size := by
          rcases HO2.out.2 with ⟨h, _⟩ | ⟨g', cap, cur, hv, _, hh, _⟩
          · rw [h] at hg; cases hg
          · rw [hv] at hg
            have : g' = g := by simpa [Value.ownBlock] using hg
            subst this
            exact heapE_lt hh
        omega))
      clear hg5 HE
      have hz5 := HB5.out.size
      have HP := Lib.hid (putN_any (c := c2) (Rd.of_own HO25.out) (Nat.le_refl _) (by omega))
      go_wp2_with fail
      refine HP.out.mono ?_
      rintro e w6 ⟨⟨A6, n6, c6, er, rfl, hend⟩, hb6⟩
      obtain ⟨hbad, houts⟩ := casts_good HL1.out
      rw [hbad, houts] at hend
      obtain ⟨rfl, hown6⟩ := hend.2 rfl
      have hE : enc l.length ++ encs l = bs := HL3.out.symm
      rw [hE] at hown6
      obtain ⟨A6', c6', e6, _⟩ := OwnY.shape hown6
      injection e6 with e7 e8 e9
      subst e7 e8 e9
      have HO6 := Lib.hid hown6
      have HB6 : Hid (Below w.heap.size w w6) := Lib.hid (HB5.out.trans (hb6.mono hz5))
      have HIY := Lib.hid (ints_yes (c1 := c2) (c2 := c4) (Rd.of_own (HO25.out.kept hb6)) (Rd.of_own (HO45.out.kept hb6)) (by omega))
      clear hend hb6 hown6 hbad houts hE HP
      have HSM := Lib.hid (sameY_any (c := c6) (d := c) (rdY_own HO6.out) ((HR.out.below HB6.out).more HB6.out.size) (by omega) hn0)
      go_wp2_with fail
      refine HIY.out.mono ?_
      rintro e w7 ⟨rfl, rfl⟩
      go_wp2_with fail
      refine HSM.out.mono ?_
      rintro e w7 ⟨rfl, q, rfl⟩
      rw [sameY_refl]
      go_wp2
      go_ret
      exact ⟨rfl, ⟨HB6.out.os, HB6.out.tape, HB6.out.output, HB6.out.size, HB6.out.block⟩⟩
    · have hall := all_left hres hr0
      have hgp := HGP.out
      rw [hall] at hgp
      obtain ⟨_, e2, rfl, _⟩ := hgp
      injection e2 with e3 e4 e5
      subst e3 e4 e5
      have HNE : Hid (endE 0 (bs.drop p) = 12) := Lib.hid (by rw [hdr]; exact endE_zero hr0)
      clear hrf hres hall hown4 hdr hr0 HGP
      go_wp2_with fail
      refine HE.out.mono ?_
      rintro en w5 ⟨rfl, hg5⟩
      rw [HNE.out]
      have HB5 := Lib.hid (HBG.out w5 hg5)
      clear hg5
      go_wp2
      go_ret
      exact ⟨rfl, HB5.out⟩
end Go.Proofs.Ytfcabdgidlnljab
