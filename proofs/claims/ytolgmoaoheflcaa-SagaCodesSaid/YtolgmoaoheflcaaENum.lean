/-
  CONTRACTS of the program's reader of layer 12: number.
-/
import Derived.Test.YtolgmoaoheflcaaERd
import Derived.Deep.Cut
namespace Go.Proofs.Ytolgmoaoheflcaa
open Go.RowKit
open ByteP CodeP
set_option linter.unusedVariables false
set_option maxRecDepth 10000

theorem wrapE {n : Int} (h0 : 0 ≤ n) (h1 : n ≤ 9223372036854775807) : IntKind.i64.wrap n = n := IntWalk.i64_in _ (by omega)
theorem ofIntE (a : Nat) (ha : a < 4611686018427387904) : (BitVec.ofInt 64 (a : Int)).toNat = a := by
  rw [BitVec.ofInt_natCast, BitVec.toNat_ofNat]; exact Nat.mod_eq_of_lt (by omega)
theorem or_addE (x y i : Nat) (hx : x < 2 ^ i) (hx2 : x < 4611686018427387904) (hy : 2 ^ i * y < 4611686018427387904) : bits .or .i64 (x : Int) ((2 ^ i * y : Nat) : Int) = ((x + 2 ^ i * y : Nat) : Int) := by
  have hl : x ||| 2 ^ i * y < 2 ^ 62 := Nat.or_lt_two_pow (by omega) (by omega)
  show IntKind.i64.wrap ((BitVec.ofInt 64 (x : Int) ||| BitVec.ofInt 64 ((2 ^ i * y : Nat) : Int)).toNat : Int) = _
  rw [BitVec.toNat_or, ofIntE x hx2, ofIntE _ hy, wrapE (by omega) (by omega), Nat.or_comm, ← Nat.two_pow_add_eq_or_of_lt hx]
  omega
theorem andNot_fin : ∀ r : Fin 256, bits BinOp.andNot IntKind.i64 ((r.val : Nat) : Int) 128 = ((r.val % 128 : Nat) : Int) := by decide
theorem andNot_more {b : Int} (h0 : 0 ≤ b) (h1 : b ≤ 255) : bits BinOp.andNot IntKind.i64 b 128 = ((b.toNat % 128 : Nat) : Int) := by
  have h := andNot_fin ⟨b.toNat, by omega⟩
  simp only at h
  rw [show b = ((b.toNat : Nat) : Int) by omega]
  rw [h]
  rfl
theorem pow7 {i : Nat} (hi : i ≤ 5) : 128 ^ i = 2 ^ (7 * i) ∧ 2 ^ (7 * i) ≤ 34359738368 := by
  have h1 : (128 : Nat) = 2 ^ 7 := by decide
  refine ⟨by rw [h1, ← Nat.pow_mul], ?_⟩
  have := Nat.pow_le_pow_right (n := 2) (by omega) (show 7 * i ≤ 35 by omega)
  exact Nat.le_trans this (by decide)
theorem grp_val {acc i : Nat} {b : Int} (hi : i ≤ 5) (hacc : acc < 128 ^ i) (h0 : 0 ≤ b) (h1 : b ≤ 255) :
    bits .or .i64 (acc : Int) (wrap64 (bits BinOp.andNot IntKind.i64 b 128 * 2 ^ (7 * i))) = ((acc + b.toNat % 128 * 128 ^ i : Nat) : Int) := by
  obtain ⟨e1, e2⟩ := pow7 hi
  rw [andNot_more h0 h1]
  have hq : b.toNat % 128 < 128 := Nat.mod_lt _ (by omega)
  generalize b.toNat % 128 = q at *
  rw [e1] at hacc ⊢
  have e3 : ((q : Int) * 2 ^ (7 * i)) = ((2 ^ (7 * i) * q : Nat) : Int) := by simp [Int.mul_comm]
  rw [e3]
  have hle : 2 ^ (7 * i) * q ≤ 34359738368 * 128 := Nat.mul_le_mul e2 (by omega)
  rw [IntWalk.wrap64_in _ ⟨by omega, by omega⟩, or_addE acc q (7 * i) hacc (by omega) (by omega), Nat.mul_comm q]
theorem acc_lt {acc i : Nat} {b : Int} (hacc : acc < 128 ^ i) : acc + b.toNat % 128 * 128 ^ i < 128 ^ (i + 1) := by
  have hq : b.toNat % 128 < 128 := Nat.mod_lt _ (by omega)
  have h1 : b.toNat % 128 * 128 ^ i ≤ 127 * 128 ^ i := Nat.mul_le_mul_right _ (by omega)
  rw [Nat.pow_succ]
  omega
theorem acc_le {acc i : Nat} {b : Int} (hi : i ≤ 5) (hacc : acc < 128 ^ i) : acc + b.toNat % 128 * 128 ^ i < 4398046511104 := by
  have h1 := acc_lt (b := b) hacc
  have h2 := Nat.pow_le_pow_right (n := 128) (by omega) (show i + 1 ≤ 6 by omega)
  have h3 : (128 : Nat) ^ 6 = 4398046511104 := by decide
  omega
/-- What number leaves. -/
def NumP (w0 w : World) (rb B : Nat) (res : Sum Int (Nat × List Int)) (n : Int) : Prop :=
  w0.grownBy w (some rb) ∧ match res with
    | .inl e => n = 0 ∧ ∃ r, Rdr w rb B r e
    | .inr (m, r) => n = (m : Int) ∧ Rdr w rb B r 0
theorem number_err {w : World} {rb B : Nat} {rest : List Int} {e : Int} (h : Rdr w rb B rest e) (he : e ≠ 0) :
    Calls Try.prog 79 #[.pointer (some ⟨rb, 0, none⟩)] w fun en w' => en = .returned (.int .i64 0) ∧ Rdr w' rb B rest e ∧ w.grownBy w' (some rb) := by
  have H := Lib.hid h
  have HE := Lib.hid he
  clear h he
  go_enter Try.func79, Try.ntmps79
  go_wp2
  refine wp_loop_rounds 1 ?_
  rw [rounds_succ]
  go_wp2_with fail
  refine (take_one H.out).mono ?_
  rintro en w1 ⟨A, n, c, rfl, hg, ht⟩
  rcases ht with ⟨e1, ht⟩ | ⟨b, r, b1, o1, c1, e0, _⟩
  · injection e1 with e2 e3 e4
    subst e2 e3 e4
    rcases ht with ⟨_, ht⟩ | ⟨e0, _⟩
    · have HT := Lib.hid ht
      have HG := Lib.hid hg
      clear ht hg
      go_wp2
      go_ret
      exact ⟨rfl, HT.out, HG.out⟩
    · exact absurd e0 HE.out
  · exact absurd e0 HE.out
set_option maxHeartbeats 2000000 in
theorem number_go {w : World} {rb B : Nat} {rest : List Int} (h : Rdr w rb B rest 0) (hb : Bytes rest) :
    Calls Try.prog 79 #[.pointer (some ⟨rb, 0, none⟩)] w fun en w' => ∃ n, en = .returned (.int .i64 n) ∧ NumP w w' rb B (num rest) n := by
  have H := Lib.hid h
  have HBY := Lib.hid hb
  clear h hb
  go_enter Try.func79, Try.ntmps79
  go_wp2
  go_loopw [3, 4, 5, 6, 7] (fun v3 _ _ _ v7 wr => ∃ (i acc : Nat) (r : List Int), i ≤ 6 ∧ v7 = .int .i64 (i : Int) ∧ v3 = .int .i64 (acc : Int) ∧ acc < 128 ^ i ∧ Hid (Rdr wr rb B r 0) ∧ Hid (Bytes r) ∧ Hid (rd1 (6 - i) i acc r = num rest) ∧ Hid (w.grownBy wr (some rb))) (fun _ _ _ _ v _ => 6 - (intOf v).toNat)
  case atStart => exact ⟨0, 0, rest, by omega, rfl, rfl, by simp, H, HBY, Lib.hid rfl, Lib.hid (World.grownBy.refl _ _)⟩
  case round =>
    obtain ⟨i, acc, r, hi, rfl, rfl, hacc, HR, HBR, HN, HG⟩ := hrel
    by_cases hi6 : i < 6
    · have hd : decide ((i : Int) < 6) = true := by simp; omega
      go_wp2_with fail
      refine (take_one HR.out).mono ?_
      rintro en w1 ⟨A, n, c, rfl, hg, ht⟩
      have HG1 := Lib.hid (grown_add HG.out hg)
      clear hg
      rcases ht with ⟨e1, ht⟩ | ⟨b, r', b1, o1, c1, _, hrr, e1, hcell, hrd⟩
      · injection e1 with e2 e3 e4
        subst e2 e3 e4
        rcases ht with ⟨e0, _⟩ | ⟨_, hr0, hrd⟩
        · exact absurd rfl e0
        · subst hr0
          have HF : Hid (NumP w w1 rb B (num rest) 0) := Lib.hid (by
            have e : num rest = .inl 13 := by rw [← HN.out, show 6 - i = (5 - i) + 1 by omega]; rfl
            rw [e]
            exact ⟨HG1.out, rfl, _, hrd⟩)
          clear hrd
          go_wp2
          go_ret
          exact ⟨0, rfl, HF.out⟩
      · injection e1 with e2 e3 e4
        subst e2 e3 e4 hrr
        have HRD := Lib.hid hrd
        have hb0 := HBR.out 0
        have e0 : ix (b :: r') 0 = b := rfl
        rw [e0] at hb0
        have HBR' : Hid (Bytes r') := Lib.hid (fun j => by have := HBR.out (j + 1); simpa [ix] using this)
        have HN' : Hid (num rest = if 128 ≤ b then rd1 (5 - i) (i + 1) (acc + b.toNat % 128 * 128 ^ i) r' else if (b = 0 ∧ 0 < i) ∨ 1099511627776 < acc + b.toNat % 128 * 128 ^ i then .inl 12 else .inr (acc + b.toNat % 128 * 128 ^ i, r')) := Lib.hid (by
          rw [← HN.out, show 6 - i = (5 - i) + 1 by omega]; rfl)
        have HV := Lib.hid (grp_val (b := b) (show i ≤ 5 by omega) hacc hb0.1 hb0.2)
        obtain ⟨q, HQ⟩ : ∃ q, Hid (acc + b.toNat % 128 * 128 ^ i = q) := ⟨_, Lib.hid rfl⟩
        have hq1 : q < 128 ^ (i + 1) := by rw [← HQ.out]; exact acc_lt hacc
        have hq2 : q < 4398046511104 := by rw [← HQ.out]; exact acc_le (by omega) hacc
        clear hrd e0
        have hadd : IntKind.i64.wrap ((i : Int) + 1) = ((i + 1 : Nat) : Int) := by rw [IntWalk.i64_in _ (by omega)]; omega
        go_upto_if 27 with fail
        rw [HV.out, HQ.out]
        rw [HQ.out] at HN'
        clear HV HN HBR hcell
        by_cases hge : 128 ≤ b
        · have d1 : decide ((128 : Int) ≤ b) = true := decide_eq_true hge
          have HN2 : Hid (rd1 (6 - (i + 1)) (i + 1) q r' = num rest) := Lib.hid (by rw [HN'.out, if_pos hge, show 6 - (i + 1) = 5 - i by omega])
          clear HN'
          go_wp2
          go_roundw
          case rel => exact ⟨i + 1, q, r', by omega, rfl, rfl, hq1, HRD, HBR', HN2, HG1⟩
          case measure => simp [intOf]; omega
        · have d1 : decide ((128 : Int) ≤ b) = false := decide_eq_false hge
          by_cases hbad : (b = 0 ∧ 0 < i) ∨ 1099511627776 < q
          · have HN2 : Hid (num rest = .inl 12) := Lib.hid (by rw [HN'.out, if_neg hge, if_pos hbad])
            have HF := Lib.hid (fail_any HRD.out 12)
            clear HN'
            by_cases hb1' : b = 0 ∧ 0 < i
            · obtain ⟨rfl, hi0⟩ := hb1'
              have d2 : decide (0 < i) = true := decide_eq_true hi0
              clear hbad
              go_wp2_with fail
              refine HF.out.mono ?_
              rintro en w2 ⟨rfl, h2, hg2⟩
              have HF2 : Hid (NumP w w2 rb B (num rest) 0) := Lib.hid (by rw [HN2.out]; exact ⟨grown_add HG1.out hg2, rfl, _, h2⟩)
              clear h2 hg2
              go_wp2
              go_ret
              exact ⟨0, rfl, HF2.out⟩
            · have hq3 : 1099511627776 < q := by rcases hbad with h | h; exact absurd h hb1'; exact h
              have d4 : decide ((1099511627776 : Int) < (q : Int)) = true := by simp; omega
              clear hbad
              by_cases hbz : b = 0
              · subst hbz
                have d2 : decide (0 < i) = false := decide_eq_false (by omega)
                clear hb1'
                go_wp2_with fail
                refine HF.out.mono ?_
                rintro en w2 ⟨rfl, h2, hg2⟩
                have HF2 : Hid (NumP w w2 rb B (num rest) 0) := Lib.hid (by rw [HN2.out]; exact ⟨grown_add HG1.out hg2, rfl, _, h2⟩)
                clear h2 hg2
                go_wp2
                go_ret
                exact ⟨0, rfl, HF2.out⟩
              · have d2 : (b == 0) = false := by simp [hbz]
                clear hb1' hbz
                go_wp2_with fail
                refine HF.out.mono ?_
                rintro en w2 ⟨rfl, h2, hg2⟩
                have HF2 : Hid (NumP w w2 rb B (num rest) 0) := Lib.hid (by rw [HN2.out]; exact ⟨grown_add HG1.out hg2, rfl, _, h2⟩)
                clear h2 hg2
                go_wp2
                go_ret
                exact ⟨0, rfl, HF2.out⟩
          · have HF2 : Hid (NumP w w1 rb B (num rest) (q : Int)) := Lib.hid (by rw [HN'.out, if_neg hge, if_neg hbad]; exact ⟨HG1.out, rfl, HRD.out⟩)
            have d4 : decide ((1099511627776 : Int) < (q : Int)) = false := by simp; omega
            clear HN'
            by_cases hbz : b = 0
            · subst hbz
              have d2 : decide (0 < i) = false := decide_eq_false (by omega)
              clear hbad
              go_wp2
              go_ret
              exact ⟨_, rfl, HF2.out⟩
            · have d2 : (b == 0) = false := by simp [hbz]
              clear hbad hbz
              go_wp2
              go_ret
              exact ⟨_, rfl, HF2.out⟩
    · have hd : decide ((i : Int) < 6) = false := by simp; omega
      have HF := Lib.hid (fail_any HR.out 12)
      have HN2 : Hid (num rest = .inl 12) := Lib.hid (by rw [← HN.out, show 6 - i = 0 by omega]; rfl)
      go_wp2_with fail
      refine HF.out.mono ?_
      rintro en w2 ⟨rfl, h2, hg2⟩
      have HF2 : Hid (NumP w w2 rb B (num rest) 0) := Lib.hid (by rw [HN2.out]; exact ⟨grown_add HG.out hg2, rfl, _, h2⟩)
      clear h2 hg2
      go_wp2
      go_ret
      exact ⟨0, rfl, HF2.out⟩
end Go.Proofs.Ytolgmoaoheflcaa
