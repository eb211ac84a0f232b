/-
  Records as bytes, the pure side: what Encode writes, what Decode reads.
-/
import Derived.Test.YtolgmoaoheflcaaPLb
import Derived.Test.YtolgmoaoheflcaaHFo
namespace Go.Proofs.Ytolgmoaoheflcaa
open Go.RowKit
open ByteP CodeP
set_option linter.unusedVariables false
set_option linter.unusedSimpArgs false
set_option maxRecDepth 10000
/-- A record's bytes behind its kind, and whether something in them has no form. -/
def tlO (kd sp : Int) (fs ts : List Int) (ps qs : List (Int × Int)) : List Int := if kd = 1 then plO fs ts ps qs else if Sa.ofStepB kd then enc 1 ++ outs [sp] else []
def tlB (kd sp : Int) (fs ts : List Int) (ps qs : List (Int × Int)) : Bool := if kd = 1 then plB fs ts ps qs else if Sa.ofStepB kd then bads [sp] else false
def fmB (kd sp : Int) (fs ts : List Int) (ps qs : List (Int × Int)) : Bool := Sa.fB kd sp fs.length ts.length ps.length qs.length
def rcO (kd sp : Int) (fs ts : List Int) (ps qs : List (Int × Int)) : List Int := kd :: tlO kd sp fs ts ps qs
def rcB (kd sp : Int) (fs ts : List Int) (ps qs : List (Int × Int)) : Bool := !fmB kd sp fs ts ps qs || tlB kd sp fs ts ps qs
/-- The one number of a list that has just one. -/
def oneE (r : List Int) : Int := match all r with | .inl e => e | .inr l => if l.length = 1 then 0 else 12
def oneN (r : List Int) : Int := match all r with | .inl _ => 0 | .inr l => if l.length = 1 then ix (casts l) 0 else 0
/-- What Decode says of bytes: the error, the step. -/
def decT (k : Int) (r : List Int) : Int := if k = 1 then endS (plS4 (.inr r)) else if Sa.ofStepB k then oneE r else if r = [] then 0 else 12
def decE : List Int → Int
  | [] => 13
  | k :: r => if Sa.rkB k then decT k r else 12
def decN (k : Int) (r : List Int) : Int := if Sa.ofStepB k then oneN r else 0
theorem rk_cases {k : Int} (h : Sa.rkB k = true) : 1 ≤ k ∧ k ≤ 8 := of_decide_eq_true h
theorem os_cases {k : Int} (h : Sa.ofStepB k = true) : k = 2 ∨ k = 3 ∨ k = 4 ∨ k = 6 := of_decide_eq_true h
theorem os_one : Sa.ofStepB 1 = false := rfl
theorem fm_parts {kd sp : Int} {fs ts : List Int} {ps qs : List (Int × Int)} (h : fmB kd sp fs ts ps qs = true) : Sa.rkB kd = true ∧ ((fs = [] ∧ ts = [] ∧ ps = [] ∧ qs = []) ∨ kd = 1) ∧ (sp = 0 ∨ Sa.ofStepB kd = true) := by
  unfold fmB Sa.fB at h
  simp only [Bool.and_eq_true, Bool.or_eq_true, decide_eq_true_eq] at h
  obtain ⟨⟨h1, h2⟩, h3⟩ := h
  refine ⟨h1, ?_, h3⟩
  rcases h2 with ⟨a, b, c, d⟩ | h2
  · exact .inl ⟨List.eq_nil_of_length_eq_zero a, List.eq_nil_of_length_eq_zero b, List.eq_nil_of_length_eq_zero c, List.eq_nil_of_length_eq_zero d⟩
  · exact .inr h2
theorem fm_nil {kd sp : Int} (h : Sa.rkB kd = true) (h3 : sp = 0 ∨ Sa.ofStepB kd = true) : fmB kd sp [] [] [] [] = true := by
  unfold fmB Sa.fB
  simp only [Bool.and_eq_true, Bool.or_eq_true, decide_eq_true_eq]
  exact ⟨⟨h, .inl ⟨rfl, rfl, rfl, rfl⟩⟩, h3⟩
theorem fm_one {fs ts : List Int} {ps qs : List (Int × Int)} : fmB 1 0 fs ts ps qs = true := by
  unfold fmB Sa.fB
  rw [decide_eq_true (rfl : (1 : Int) = 1), Bool.or_true]
  rfl
/-- What is written is read back. -/
theorem dec_enc {kd sp : Int} {fs ts : List Int} {ps qs : List (Int × Int)} (h : rcB kd sp fs ts ps qs = false) (l1 : fs.length ≤ 50) (l2 : ts.length ≤ 50) (l3 : ps.length ≤ 100) (l4 : qs.length ≤ 200) :
    decE (rcO kd sp fs ts ps qs) = 0 ∧ decN kd (tlO kd sp fs ts ps qs) = sp ∧ Bytes (rcO kd sp fs ts ps qs) ∧ (rcO kd sp fs ts ps qs).length ≤ 9000 := by
  unfold rcB at h
  rw [Bool.or_eq_false_iff, Bool.not_eq_false'] at h
  obtain ⟨h1, h2⟩ := h
  obtain ⟨hk, hp, hs⟩ := fm_parts h1
  have hk8 := rk_cases hk
  unfold rcO decE
  simp only [hk, if_true]
  unfold decT decN
  unfold tlB at h2
  by_cases k1 : kd = 1
  · subst k1
    have hs0 : sp = 0 := by
      rcases hs with h | h
      · exact h
      · cases h
    rw [if_pos rfl] at h2
    have e1 : tlO 1 sp fs ts ps qs = plO fs ts ps qs := by unfold tlO; rw [if_pos rfl]
    rw [e1, if_pos rfl, os_one]
    obtain ⟨f, t, s, b, rfl, rfl, rfl, rfl, hf, ht, hs', hb⟩ := pl_good h2
    simp only [casts_len, casts2_len] at l1 l2 l3 l4
    obtain ⟨e2, _⟩ := plO_casts hf ht hs' hb
    have he := plS_enc hf ht hs' hb (by omega) (by omega) (by omega) (by omega)
    refine ⟨?_, ?_, ?_, ?_⟩
    · rw [e2]; exact he.2.2.2.2
    · rw [if_neg (by simp)]; exact hs0.symm
    · exact bytes_cons (by omega) (by omega) (plO_bytes h2)
    · have a1 := outs_len (casts f); have a2 := outs_len (casts t); have a3 := outP_len (casts2 s); have a4 := outP_len (casts2 b)
      rw [casts_len] at a1 a2
      rw [casts2_len] at a3 a4
      have b1 := enc_small (n := f.length) (by omega); have b2 := enc_small (n := t.length) (by omega); have b3 := enc_small (n := s.length) (by omega); have b4 := enc_small (n := b.length) (by omega)
      unfold plO
      simp only [List.length_cons, List.length_append, casts_len, casts2_len]
      omega
  · rw [if_neg k1] at h2 ⊢
    by_cases ks : Sa.ofStepB kd = true
    · rw [if_pos ks] at h2
      have e1 : tlO kd sp fs ts ps qs = enc 1 ++ outs [sp] := by unfold tlO; rw [if_neg k1, if_pos ks]
      rw [e1, if_pos ks, if_pos ks]
      obtain ⟨ln, hln, hok, ho⟩ := good_list h2
      have hl1 : ln.length = 1 := by
        have := congrArg List.length hln
        rw [casts_len] at this
        simpa using this.symm
      have e2 : enc 1 ++ outs [sp] = encL ln := by unfold encL; rw [hl1, ho]
      have e3 := all_enc hok (by omega)
      rw [e2]
      have e4 : ix (casts ln) 0 = sp := by rw [← hln]; rfl
      refine ⟨?_, ?_, bytes_cons (by omega) (by omega) (encL_bytes _), ?_⟩
      · unfold oneE; rw [e3]; simp only; rw [if_pos hl1]
      · unfold oneN; rw [e3]; simp only; rw [if_pos hl1]; exact e4
      · have a1 := encs_le hok
        have a2 := enc_small (n := ln.length) (by omega)
        unfold encL
        simp only [List.length_cons, List.length_append]
        omega
    · have ks' : Sa.ofStepB kd = false := by simpa using ks
      have e1 : tlO kd sp fs ts ps qs = [] := by unfold tlO; rw [if_neg k1, if_neg ks]
      rw [e1, if_neg ks, if_neg ks, if_pos rfl]
      refine ⟨rfl, ?_, bytes_cons (by omega) (by omega) bytes_nil, by simp⟩
      rcases hs with h | h
      · exact h.symm
      · exact absurd h ks
/-- A step that was read is written as the same bytes. -/
theorem one_back {r : List Int} (hb : Bytes r) (h : oneE r = 0) : bads [oneN r] = false ∧ enc 1 ++ outs [oneN r] = r := by
  unfold oneE at h
  cases hr : all r with
  | inl e =>
    rw [hr] at h
    simp only at h
    have := all_err hb hr
    omega
  | inr l =>
    rw [hr] at h
    simp only at h
    obtain ⟨hok, hl, he⟩ := all_back hb hr
    by_cases h1 : l.length = 1
    · obtain ⟨x, rfl⟩ : ∃ x, l = [x] := by
        match l, h1 with
        | [x], _ => exact ⟨x, rfl⟩
      have e1 : oneN r = (x : Int) := by unfold oneN; rw [hr]; rfl
      have hx := hok x (by simp)
      have e2 : casts [x] = [(x : Int)] := rfl
      have hg := casts_good (ln := [x]) hok
      rw [e2] at hg
      rw [e1]
      refine ⟨hg.1, ?_⟩
      rw [hg.2, he]
      rfl
    · rw [if_neg h1] at h
      omega
theorem rdPl_far {w : World} {base n1 n2 n3 n4 d1 d2 d3 d4 : Nat} {B1 B2 B3 B4 : Option Addr} {bs : List Int} (hb : Bytes bs) (hl : bs.length ≤ 10000) (h0 : endS (plS4 (.inr bs)) = 0)
    (h1 : ListI w base (.slice B1 n1 d1) (lstS (.inr bs))) (h2 : ListI w base (.slice B2 n2 d2) (lstS (plS1 (.inr bs)))) (h3 : ListP 71 w base (.slice B3 n3 d3) (lstPS (plS2 (.inr bs)))) (h4 : ListP 90 w base (.slice B4 n4 d4) (lstPS (plS3 (.inr bs)))) :
    ∃ fs ts ps qs, n1 = fs.length ∧ n2 = ts.length ∧ n3 = ps.length ∧ n4 = qs.length ∧ RdPl w w.heap.size B1 B2 B3 B4 fs ts ps qs ∧ plO fs ts ps qs = bs ∧ plB fs ts ps qs = false := by
  obtain ⟨f, t, s, b, e1, e2, e3, e4, hf, ht, hs, hbb, hE⟩ := plS_back hb h0
  obtain ⟨l1, l2, l3, l4⟩ := plE_lens f t s b
  rw [← hE] at l1 l2 l3 l4
  obtain ⟨a1, a2, a3, a4, a5⟩ := rdPl_of h1 h2 h3 h4 e1 e2 e3 e4 (by omega) (by omega) (by omega) (by omega)
  obtain ⟨k1, k2⟩ := plO_casts hf ht hs hbb
  exact ⟨_, _, _, _, a1, a2, a3, a4, a5, by rw [k1]; exact hE.symm, k2⟩
end Go.Proofs.Ytolgmoaoheflcaa
