/-
  CONTRACT of the clock's Due over this translation: what is due, in its order.
-/
import Derived.Test.YtinphdphloddmabCDue
import Derived.Test.YtinphdphloddmabCSorted
namespace Go.Proofs.Ytinphdphloddmab
open Go.RowKit
open ByteP
set_option linter.unusedVariables false
set_option maxRecDepth 10000

section
variable [Inhabited I64]
set_option maxHeartbeats 1000000 in
theorem due_own {w : World} {cb bm n : Nat} {now : Int} {D : DataW Unit} {G : Int → Option Int} (hc : Clk w cb bm now n D) (hG : AlD D G) (hr : ∀ x t, G x = some t → 0 ≤ x ∧ x ≤ 999999) (hn : n ≤ 1000000000) :
    Calls Try.prog 38 #[.pointer (some ⟨cb, 0, none⟩)] w fun e w' => ∃ (A : Option Addr) (c : Nat) (xs : List Int), e = .returned (.slice A xs.length c) ∧ DueL G now xs ∧ Own w' w.heap.size (.slice A xs.length c) xs.length xs ∧ xs.Pairwise (LexG G) ∧ Below w.heap.size w w' := by
  have HG := Lib.hid hG
  have HR := Lib.hid hr
  have hlt := hc.lt
  have hblt : bm < w.heap.size := hc.own.lt
  have HS := Lib.hid hc.own.size_le
  have hbw : Below w.heap.size w (w.alloc (.cells #[.pointer (some ⟨cb, 0, none⟩)] 58)) := (Below.refl _ _).alloc (Nat.le_refl _) _
  have hcv := hc.below hbw hlt hblt
  have HCV := Lib.hid hcv
  have HBW := Lib.hid hbw
  have c1 := hcv.c1
  have hown := hcv.own
  have e1 : (w.alloc (.cells #[.pointer (some ⟨cb, 0, none⟩)] 58)).heap.size = w.heap.size + 1 := by simp
  have hbx := heap_alloc_new w (.cells #[.pointer (some ⟨cb, 0, none⟩)] 58)
  have HV : Hid ((w.alloc (.cells #[.pointer (some ⟨cb, 0, none⟩)] 58)).cell? ⟨w.heap.size, 0, none⟩ = some (.pointer (some ⟨cb, 0, none⟩))) := Lib.hid (by simp only [World.cell?, hbx]; rfl)
  have E1 := Lib.hid e1
  clear hc hG hr hbx hbw hcv e1
  go_enter Try.func38, Try.ntmps38
  go_wp2_with (first
    | (at_range; refine wpList_range_own _ rfl _ 95 rfl 3 3 lawI Try.underlying95 _ bm n D rfl hown ?_; intro w0 hrg0 hg0 hs0)
    | go_in)
  go_frame
  obtain ⟨wv, HWV⟩ : ∃ wv, Hid (wv = w.alloc (.cells #[.pointer (some ⟨cb, 0, none⟩)] 58)) := ⟨_, Lib.hid rfl⟩
  rw [E1.out] at hrg0 hs0 ⊢
  rw [← HWV.out] at hg0
  have HV' : Hid (wv.cell? ⟨w.heap.size, 0, none⟩ = some (.pointer (some ⟨cb, 0, none⟩))) := Lib.hid (by rw [HWV.out]; exact HV.out)
  have HCV' : Hid (Clk wv cb bm now n D) := Lib.hid (by rw [HWV.out]; exact HCV.out)
  have HBW' : Hid (Below w.heap.size w wv) := Lib.hid (by rw [HWV.out]; exact HBW.out)
  have HSZ : Hid (wv.heap.size = w.heap.size + 1) := Lib.hid (by rw [HWV.out]; exact E1.out)
  have HB0 : Hid (Below (w.heap.size + 1) wv w0) := Lib.hid ((Below.refl _ _).grown hg0 (by rw [HSZ.out]; omega) (fun j hj => by cases hj))
  clear hown c1 HV HCV HBW E1 HWV hg0
  go_loopw [3] (fun v wr => ∃ (left : Lit → Bool) (cnt : Nat) (A : Option Addr) (c : Nat) (xs : List Int), v = .slice A xs.length c ∧ Hid (wr.ranges Try.prog 3 (plainElem Try.prog 3) bm (w.heap.size + 1) n D left cnt) ∧ xs.length + cnt ≤ n ∧
      Hid (Own wr (w.heap.size + 2) (.slice A xs.length c) xs.length xs) ∧ Hid (DuR G now left xs) ∧ Hid (Below (w.heap.size + 1) wv wr) ∧ w.heap.size + 2 ≤ wr.heap.size)
    (fun _ wr => wr.rangeLeft bm (w.heap.size + 1))
  case atStart => exact ⟨_, _, none, 0, [], rfl, Lib.hid hrg0, by have := HS.out; simp; omega, Lib.hid (Own.nil_ _ _), Lib.hid (DuR.start HG.out now), HB0, by omega⟩
  case round =>
    obtain ⟨left, cnt, A, c, xs, rfl, hrg, hcnt, hown, hdu, hbel, hsz⟩ := hrel
    go_wp2_with (first
      | (at_next; refine wpList_next_ranges_ii _ rfl _ rfl 3 3 .i64 .i64 lawI Try.underlying3 Try.underlying3 bm (w.heap.size + 1) n _ _ _ rfl hrg.out ?_ ?_)
      | go_in)
    · intro hc0 hl0
      have HM : Hid (DueL G now xs) := Lib.hid ⟨hdu.out.nodup, fun x => by rw [hdu.out.mem x, hl0]; simp⟩
      have hclk := HCV'.out.below hbel.out (by omega) (by omega)
      have hvr := (hbel.out.cell (p := ⟨w.heap.size, 0, none⟩) (by simp)).trans HV'.out
      have HSF := Lib.hid (sortF_own (vb := w.heap.size) (base := w.heap.size + 2) hown.out (by omega) (fun x hx => by
        obtain ⟨t, ht, _⟩ := (HM.out.2 x).1 hx
        have := HR.out x t ht
        omega) hvr (by omega) hclk (by omega) (by omega) hsz HG.out)
      clear hl0 hrg hclk hvr
      go_wp2_with fail
      refine HSF.out.mono ?_
      rintro e w5 ⟨rfl, hgr5, ys, hown5, hperm, hpw⟩
      have HO5 := Lib.hid hown5
      have HPE := Lib.hid hperm
      have HPW := Lib.hid hpw
      clear hown5 hperm hpw
      have HB5 : Hid (Below w.heap.size w w5) := Lib.hid (HBW'.out.trans ((hbel.out.mono (by omega)).grown hgr5 (by omega) (fun g hg => by have := hown.out.ge g hg; omega)))
      clear hgr5
      go_wp2
      go_ret
      refine ⟨A, c, ys, by rw [HPE.out.length_eq]; rfl, ⟨HPE.out.nodup_iff.2 HM.out.1, fun x => by rw [HPE.out.mem_iff]; exact HM.out.2 x⟩, ?_, HPW.out, HB5.out⟩
      rw [HPE.out.length_eq]
      exact HO5.out.less (by omega)
    · intro x t w1 cnt1 hwx hwc hlx hat hrg1 hlt1 hg1 hs1 hen
      have HGX : Hid (G x = some t) := Lib.hid (HG.out.entry (hdu.out.todo x hlx) hat)
      have HRG1 := Lib.hid hrg1
      have HO1 : Hid (Own w1 (w.heap.size + 2) (.slice A xs.length c) xs.length xs) := Lib.hid (hown.out.other hg1 (fun g hg e => by injection e with e; have := hown.out.ge g hg; omega))
      have HB1 : Hid (Below (w.heap.size + 1) wv w1) := Lib.hid (hbel.out.grown hg1 (by omega) (fun g hg => by injection hg with e; omega))
      have HL : Hid (wr.rangeLeft bm (w.heap.size + 1) = cnt) := Lib.hid hrg.out.left_eq
      have HS1 := Lib.hid hs1
      have HLX := Lib.hid hlx
      have d0 := (HB1.out.cell (p := ⟨cb, 0, none⟩) (by simp; omega)).trans HCV'.out.c0
      have dv := (HB1.out.cell (p := ⟨w.heap.size, 0, none⟩) (by simp)).trans HV'.out
      clear hrg1 hg1 hat hwx hwc hlx hs1 hown hbel hrg
      by_cases hn : t ≤ now
      · have q1 : decide (t ≤ now) = true := by simp; omega
        go_wp2_with (at_builtin; refine wpl_app rfl (.tmp 22) (.tmp 24) rfl (w.heap.size + 2) (.slice A xs.length c) xs.length xs rfl (HO1.out.alloc _) w1.heap.size x rfl (by simp) (by omega) (by have := HS1.out; simp; omega) ?_; intro g c2 w2 hown2 hge hgr2 hat2)
        have hnb : some bm ≠ (Value.slice A xs.length c).ownBlock := fun e => by have := HO1.out.ge bm e.symm; omega
        have hnr : some (w.heap.size + 1) ≠ (Value.slice A xs.length c).ownBlock := fun e => by have := HO1.out.ge _ e.symm; omega
        go_roundw
        case rel =>
          have hs1 := HS1.out
          exact ⟨_, cnt1, some ⟨g, 0, none⟩, c2, xs ++ [x], by simp, Lib.hid ((HRG1.out.alloc _).kept hgr2 hnb hnr), by simp; omega, Lib.hid (by simpa using hown2), Lib.hid (hdu.out.take HLX.out HGX.out hn), Lib.hid ((HB1.out.alloc (by omega) _).grown hgr2 (by simp; omega) (fun g hg => by have := HO1.out.ge g hg; omega)), by have := hgr2.size; simp at this; omega⟩
        case measure =>
          rw [HL.out, ((HRG1.out.alloc _).kept hgr2 hnb hnr).left_eq]
          exact hlt1
      · have q1 : decide (t ≤ now) = false := by simp; omega
        go_wp2
        go_roundw
        case rel => exact ⟨_, cnt1, A, c, xs, rfl, HRG1, by omega, HO1, Lib.hid (hdu.out.skip HLX.out HGX.out (by omega)), HB1, by have := HS1.out; omega⟩
        case measure =>
          rw [HL.out, HRG1.out.left_eq]
          exact hlt1
end
end Go.Proofs.Ytinphdphloddmab
