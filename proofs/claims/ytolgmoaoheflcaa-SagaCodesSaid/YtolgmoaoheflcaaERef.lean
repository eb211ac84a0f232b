/-
  CONTRACTS of the document's reader of layer 12: a number.
-/
import Derived.Test.YtolgmoaoheflcaaEGet
import Derived.Deep.QuietTactic
import Derived.BigQuiet
namespace Go.Proofs.Ytolgmoaoheflcaa
open Go.RowKit
open ByteP CodeP
set_option linter.unusedVariables false
set_option maxRecDepth 10000

/-- The document's reader at block rb. -/
structure Rfr (w : World) (rb B : Nat) (bs : List Int) (p : Nat) (e : Int) : Prop where
  row : ∃ A c, w.heap[rb]? = some (.cells #[.slice A bs.length c, .int .i64 (p : Int), .int .i64 e] 86 (0, 0)) ∧ RdY w B A bs.length bs ∧ CapA A bs.length c
  le : p ≤ bs.length
  lt : B ≤ rb
theorem row3E {w : World} {g : Nat} {x y z : Value} {t : TypeId} (h : w.heap[g]? = some (.cells #[x, y, z] t (0, 0))) : w.cell? ⟨g, 0, none⟩ = some x ∧ w.cell? ⟨g, 1, none⟩ = some y ∧ w.cell? ⟨g, 2, none⟩ = some z ∧ w.frozen? ⟨g, 1, none⟩ = false ∧ w.frozen? ⟨g, 2, none⟩ = false :=
  ⟨by rw [cell_of_row w g 0 _ _ _ h]; rfl, by rw [cell_of_row w g 1 _ _ _ h]; rfl, by rw [cell_of_row w g 2 _ _ _ h]; rfl, frozen_of_row w g 1 _ _ h, frozen_of_row w g 2 _ _ h⟩
section
variable {w w' : World} {rb B p : Nat} {bs : List Int} {e : Int}
theorem Rfr.here (h : Rfr w rb B bs p e) : rb < w.heap.size := by
  obtain ⟨A, c, h1, _⟩ := h.row
  exact heapE_lt h1
theorem Rfr.err (h : Rfr w rb B bs p e) (x : Int) : Rfr (w.setCell ⟨rb, 2, none⟩ (.int .i64 x)) rb B bs p x := by
  obtain ⟨A, c, h1, h2⟩ := h.row
  exact ⟨⟨A, c, heap_setCell_same w rb 2 _ _ _ h1, h2.1.setCell (p := ⟨rb, 2, none⟩) h.lt _, h2.2⟩, h.le, h.lt⟩
theorem Rfr.at_ (h : Rfr w rb B bs p e) {q : Nat} (hq : q ≤ bs.length) : Rfr (w.setCell ⟨rb, 1, none⟩ (.int .i64 (q : Int))) rb B bs q e := by
  obtain ⟨A, c, h1, h2⟩ := h.row
  exact ⟨⟨A, c, heap_setCell_same w rb 1 _ _ _ h1, h2.1.setCell (p := ⟨rb, 1, none⟩) h.lt _, h2.2⟩, hq, h.lt⟩
theorem Rfr.drewN (h : Rfr w rb B bs p e) (k : Nat) : Rfr (w.drewN k) rb B bs p e := ⟨h.row, h.le, h.lt⟩
theorem Rfr.grown (h : Rfr w rb B bs p e) {row : Option Nat} (hg : w.grownBy w' row) (hr : ∀ g, row = some g → rb < g) : Rfr w' rb B bs p e := by
  obtain ⟨A, c, h1, h2⟩ := h.row
  have hlt := h.lt
  have hh := h.here
  exact ⟨⟨A, c, (hg.block rb hh (fun e => by have := hr rb e.symm; omega)).trans h1, h2.1.grown hg (by omega) (fun g hg' => by have := hr g hg'; omega), h2.2⟩, h.le, hlt⟩
theorem Rfr.alloc (h : Rfr w rb B bs p e) (o : Obj) : Rfr (w.alloc o) rb B bs p e :=
  h.grown (row := none) ⟨rfl, rfl, rfl, by simp, fun k hk _ => Below.heap_alloc w o k hk⟩ (fun g hg => by cases hg)
theorem grown_drewN (h : w.grownBy w' (some rb)) (k : Nat) : w.grownBy (w'.drewN k) (some rb) := ⟨h.os, h.tape, h.output, h.size, h.block⟩
end
theorem failR_any {w : World} {rb B p : Nat} {bs : List Int} {e : Int} (h : Rfr w rb B bs p e) (x : Int) :
    Calls Try.prog 68 #[.pointer (some ⟨rb, 0, none⟩), .int .i64 x] w fun en w' => en = .returned (.tuple #[]) ∧ Rfr w' rb B bs p (if e = 0 then x else e) ∧ w.grownBy w' (some rb) := by
  obtain ⟨A, c, hrow, hrd⟩ := h.row
  obtain ⟨hc0, hc1, hc2, hf1, hf2⟩ := row3E hrow
  have HE := Lib.hid (h.err x)
  have HG := Lib.hid (grown_set w rb 2 (.int .i64 x))
  have H := Lib.hid h
  clear h hrow hrd
  by_cases e0 : e = 0
  · have d0 : (e == 0) = true := by simp [e0]
    rw [if_pos e0]
    clear e0
    go_enter Try.func68, Try.ntmps68
    go_wp2
    go_end0
    exact ⟨rfl, HE.out, HG.out⟩
  · have d0 : (e == 0) = false := by simp [e0]
    rw [if_neg e0]
    clear e0
    go_enter Try.func68, Try.ntmps68
    go_wp2
    go_end0
    exact ⟨rfl, H.out, World.grownBy.refl _ _⟩
/-- What the document's num leaves. -/
def NumQ (w0 w : World) (rb B : Nat) (bs : List Int) (res : Sum Int (Nat × List Int)) (n : Int) : Prop :=
  w0.grownBy w (some rb) ∧ match res with
    | .inl e => n = 0 ∧ ∃ p, Rfr w rb B bs p e
    | .inr (m, r) => n = (m : Int) ∧ ∃ p, Rfr w rb B bs p 0 ∧ bs.drop p = r
theorem numR_err {w : World} {rb B p : Nat} {bs : List Int} {e : Int} (h : Rfr w rb B bs p e) (he : e ≠ 0) :
    Calls Try.prog 67 #[.pointer (some ⟨rb, 0, none⟩)] w fun en w' => en = .returned (.int .i64 0) ∧ Rfr w' rb B bs p e ∧ w.grownBy w' (some rb) := by
  have HF := Lib.hid (failR_any h 12)
  obtain ⟨A, c, hrow, _⟩ := h.row
  obtain ⟨hc0, hc1, hc2, _, _⟩ := row3E hrow
  have d0 : (e == 0) = false := by simp [he]
  have HE := Lib.hid he
  clear h he hrow
  go_enter Try.func67, Try.ntmps67
  go_wp2
  refine wp_loop_rounds 1 ?_
  rw [rounds_succ]
  go_wp2_with fail
  refine HF.out.mono ?_
  rintro en w1 ⟨rfl, h1, hg1⟩
  have H1 : Hid (Rfr w1 rb B bs p e) := Lib.hid (by simpa [HE.out] using h1)
  have HG := Lib.hid hg1
  clear h1 hg1
  go_wp2
  go_ret
  exact ⟨rfl, H1.out, HG.out⟩
theorem drop_ix {bs : List Int} {p : Nat} (h : p < bs.length) : bs.drop p = ix bs p :: bs.drop (p + 1) := by
  rw [List.drop_eq_getElem_cons h]
  unfold ix
  simp [List.getD, h]
theorem grp_ref {acc i : Nat} {b : Int} (hi : i ≤ 5) (hacc : acc < 128 ^ i) (h0 : 0 ≤ b) (h1 : b ≤ 255) :
    wrap64 ((acc : Int) + wrap64 (b % 128 * 2 ^ (7 * i))) = ((acc + b.toNat % 128 * 128 ^ i : Nat) : Int) := by
  obtain ⟨e1, e2⟩ := pow7 hi
  have hq : b.toNat % 128 < 128 := Nat.mod_lt _ (by omega)
  have eb : b % 128 = ((b.toNat % 128 : Nat) : Int) := by omega
  rw [eb]
  generalize b.toNat % 128 = q at *
  rw [e1] at hacc ⊢
  have e3 : ((q : Int) * 2 ^ (7 * i)) = ((2 ^ (7 * i) * q : Nat) : Int) := by simp [Int.mul_comm]
  rw [e3]
  have hle : 2 ^ (7 * i) * q ≤ 34359738368 * 128 := Nat.mul_le_mul e2 (by omega)
  rw [IntWalk.wrap64_in ((2 ^ (7 * i) * q : Nat) : Int) ⟨by omega, by omega⟩, IntWalk.wrap64_in _ ⟨by omega, by omega⟩, Nat.mul_comm q]
  omega
set_option maxHeartbeats 2000000 in
theorem numR_go {w : World} {rb B p0 : Nat} {bs : List Int} (h : Rfr w rb B bs p0 0) (hb : Bytes bs) (hl : bs.length ≤ 1000000000) :
    Calls Try.prog 67 #[.pointer (some ⟨rb, 0, none⟩)] w fun en w' => ∃ n, en = .returned (.int .i64 n) ∧ NumQ w w' rb B bs (num (bs.drop p0)) n := by
  have H := Lib.hid h
  have HBY := Lib.hid hb
  clear h hb
  go_enter Try.func67, Try.ntmps67
  go_wp2
  go_loopw [3, 4, 5] (fun v3 v4 _ wr => ∃ (k acc p : Nat), k ≤ 6 ∧ v4 = .int .i64 (k : Int) ∧ v3 = .int .i64 (acc : Int) ∧ acc < 128 ^ k ∧ Hid (Rfr wr rb B bs p 0) ∧ Hid (rd1 (6 - k) k acc (bs.drop p) = num (bs.drop p0)) ∧ Hid (w.grownBy wr (some rb))) (fun _ v _ _ => 6 - (intOf v).toNat)
  case atStart => exact ⟨0, 0, p0, by omega, rfl, rfl, by simp, H, Lib.hid rfl, Lib.hid (World.grownBy.refl _ _)⟩
  case round =>
    obtain ⟨k, acc, p, hk, rfl, rfl, hacc, HR, HN, HG⟩ := hrel
    obtain ⟨A, c, hrow, hrd⟩ := HR.out.row
    obtain ⟨hc0, hc1, hc2, hf1, hf2⟩ := row3E hrow
    have hle := HR.out.le
    have HRD := Lib.hid hrd.1
    have HROW := Lib.hid hrow
    clear hrow hrd
    by_cases hk6 : k < 6
    · have hd : decide ((k : Int) < 6) = true := by simp; omega
      by_cases hp : p < bs.length
      · have hge : decide ((bs.length : Int) ≤ (p : Int)) = false := by simp; omega
        obtain ⟨b1, o1, rfl, hb1, hcell⟩ := HRD.out.at_ hp
        obtain ⟨b, HBV⟩ : ∃ b, Hid (ix bs p = b) := ⟨_, Lib.hid rfl⟩
        rw [HBV.out] at hcell
        have hb0 := HBY.out p
        rw [HBV.out] at hb0
        have hpi : (p : Int) < (bs.length : Int) := by omega
        have hpi0 : (0 : Int) ≤ (p : Int) := by omega
        have haddp : IntKind.i64.wrap ((p : Int) + 1) = ((p + 1 : Nat) : Int) := by rw [IntWalk.i64_in _ (by omega)]; omega
        go_wp2_with fail
        go_quiet (fail)
        generalize nq = nq1
        go_wp2_with fail
        go_quiet (fail)
        go_upto_if 55 with fail
        obtain ⟨w5, HW5⟩ : ∃ w5, Hid (w5 = (wr.drewN (nq1 + nq)).setCell ⟨rb, 1, none⟩ (.int .i64 ((p : Int) + 1))) := ⟨_, Lib.hid rfl⟩
        rw [← HW5.out]
        have HR5 : Hid (Rfr w5 rb B bs (p + 1) 0) := Lib.hid (by
          have h := (HR.out.drewN (nq1 + nq)).at_ (q := p + 1) (by omega)
          have e : ((p + 1 : Nat) : Int) = (p : Int) + 1 := by omega
          rw [e] at h
          rw [HW5.out]
          exact h)
        have HG5 : Hid (w.grownBy w5 (some rb)) := Lib.hid (by rw [HW5.out]; exact grown_add (grown_drewN HG.out _) (grown_set _ rb 1 _))
        have HF := Lib.hid (failR_any HR5.out 12)
        have HN' : Hid (num (bs.drop p0) = if 128 ≤ b then rd1 (5 - k) (k + 1) (acc + b.toNat % 128 * 128 ^ k) (bs.drop (p + 1)) else if (b = 0 ∧ 0 < k) ∨ 1099511627776 < acc + b.toNat % 128 * 128 ^ k then .inl 12 else .inr (acc + b.toNat % 128 * 128 ^ k, bs.drop (p + 1))) := Lib.hid (by
          rw [← HN.out, show 6 - k = (5 - k) + 1 by omega, drop_ix hp, HBV.out]; rfl)
        have HV := Lib.hid (grp_ref (b := b) (show k ≤ 5 by omega) hacc hb0.1 hb0.2)
        obtain ⟨q, HQ⟩ : ∃ q, Hid (acc + b.toNat % 128 * 128 ^ k = q) := ⟨_, Lib.hid rfl⟩
        have hq1 : q < 128 ^ (k + 1) := by rw [← HQ.out]; exact acc_lt hacc
        have hq2 : q < 4398046511104 := by rw [← HQ.out]; exact acc_le (by omega) hacc
        rw [HQ.out] at HN'
        rw [HV.out, HQ.out]
        have hadd : IntKind.i64.wrap ((k : Int) + 1) = ((k + 1 : Nat) : Int) := by rw [IntWalk.i64_in _ (by omega)]; omega
        clear HV HN hcell hc0 hc1 hc2 hf1 hf2 hge
        by_cases hge : 128 ≤ b
        · have d1 : decide (b < (128 : Int)) = false := decide_eq_false (by omega)
          have HN2 : Hid (rd1 (6 - (k + 1)) (k + 1) q (bs.drop (p + 1)) = num (bs.drop p0)) := Lib.hid (by rw [HN'.out, if_pos hge, show 6 - (k + 1) = 5 - k by omega])
          clear HN'
          go_wp2
          go_roundw
          case rel => exact ⟨k + 1, q, p + 1, by omega, rfl, rfl, hq1, HR5, HN2, HG5⟩
          case measure => simp [intOf]; omega
        · have d1 : decide (b < (128 : Int)) = true := decide_eq_true (by omega)
          by_cases hq3 : 1099511627776 < q
          · have d4 : decide ((1099511627776 : Int) < (q : Int)) = true := by simp; omega
            have HN2 : Hid (num (bs.drop p0) = .inl 12) := Lib.hid (by rw [HN'.out, if_neg hge, if_pos (.inr hq3)])
            clear HN'
            go_wp2_with fail
            refine HF.out.mono ?_
            rintro en w6 ⟨rfl, h6, hg6⟩
            have HF2 : Hid (NumQ w w6 rb B bs (num (bs.drop p0)) 0) := Lib.hid (by rw [HN2.out]; exact ⟨grown_add HG5.out hg6, rfl, _, h6⟩)
            clear h6 hg6
            go_wp2
            go_ret
            exact ⟨0, rfl, HF2.out⟩
          · have d4 : decide ((1099511627776 : Int) < (q : Int)) = false := by simp; omega
            by_cases hb1' : b = 0 ∧ 0 < k
            · have HN2 : Hid (num (bs.drop p0) = .inl 12) := Lib.hid (by rw [HN'.out, if_neg hge, if_pos (.inl hb1')])
              obtain ⟨rfl, hi0⟩ := hb1'
              have d2 : decide (0 < k) = true := decide_eq_true hi0
              clear HN'
              go_wp2_with fail
              refine HF.out.mono ?_
              rintro en w6 ⟨rfl, h6, hg6⟩
              have HF2 : Hid (NumQ w w6 rb B bs (num (bs.drop p0)) 0) := Lib.hid (by rw [HN2.out]; exact ⟨grown_add HG5.out hg6, rfl, _, h6⟩)
              clear h6 hg6
              go_wp2
              go_ret
              exact ⟨0, rfl, HF2.out⟩
            · have HF2 : Hid (NumQ w w5 rb B bs (num (bs.drop p0)) (q : Int)) := Lib.hid (by
                rw [HN'.out, if_neg hge, if_neg (fun h => by rcases h with h | h; exact hb1' h; exact hq3 h)]
                exact ⟨HG5.out, rfl, p + 1, HR5.out, rfl⟩)
              clear HN'
              by_cases hbz : b = 0
              · subst hbz
                have d2 : decide (0 < k) = false := decide_eq_false (by omega)
                clear hb1'
                go_wp2
                go_ret
                exact ⟨_, rfl, HF2.out⟩
              · have d2 : (b == 0) = false := by simp [hbz]
                clear hb1' hbz
                by_cases hk0 : 0 < k
                · have d3 : decide (0 < k) = true := decide_eq_true hk0
                  go_wp2
                  go_ret
                  exact ⟨_, rfl, HF2.out⟩
                · have d3 : decide (0 < k) = false := decide_eq_false hk0
                  go_wp2
                  go_ret
                  exact ⟨_, rfl, HF2.out⟩
      · have hge : decide (bs.length ≤ p) = true := decide_eq_true (by omega)
        have HF := Lib.hid (fun d => failR_any (HR.out.drewN d) 13)
        have HN2 : Hid (num (bs.drop p0) = .inl 13) := Lib.hid (by
          rw [← HN.out, show 6 - k = (5 - k) + 1 by omega, List.drop_eq_nil_of_le (by omega)]; rfl)
        have HG5 := HG
        go_wp2_with fail
        go_quiet (fail)
        go_wp2_with fail
        refine (HF.out _).mono ?_
        rintro en w6 ⟨rfl, h6, hg6⟩
        have HF2 : Hid (NumQ w w6 rb B bs (num (bs.drop p0)) 0) := Lib.hid (by rw [HN2.out]; exact ⟨grown_add (grown_drewN HG5.out _) hg6, rfl, _, h6⟩)
        clear h6 hg6
        go_wp2
        go_ret
        exact ⟨0, rfl, HF2.out⟩
    · have hd : decide ((k : Int) < 6) = false := by simp; omega
      have HF := Lib.hid (failR_any HR.out 12)
      have HN2 : Hid (num (bs.drop p0) = .inl 12) := Lib.hid (by rw [← HN.out, show 6 - k = 0 by omega]; rfl)
      have HG5 := HG
      go_wp2_with fail
      refine HF.out.mono ?_
      rintro en w6 ⟨rfl, h6, hg6⟩
      have HF2 : Hid (NumQ w w6 rb B bs (num (bs.drop p0)) 0) := Lib.hid (by rw [HN2.out]; exact ⟨grown_add HG5.out hg6, rfl, _, h6⟩)
      clear h6 hg6
      go_wp2
      go_ret
      exact ⟨0, rfl, HF2.out⟩
end Go.Proofs.Ytolgmoaoheflcaa
