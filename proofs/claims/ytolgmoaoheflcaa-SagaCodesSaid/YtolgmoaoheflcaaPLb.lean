/-
  What was read is a plan again.
-/
import Derived.Test.YtolgmoaoheflcaaPPa
namespace Go.Proofs.Ytolgmoaoheflcaa
open Go.RowKit
open ByteP CodeP
set_option linter.unusedVariables false
set_option maxRecDepth 10000
theorem encPs_bytes (l : List (Nat × Nat)) : Bytes (encPs l) := by
  induction l with
  | nil => exact bytes_nil
  | cons p l ih => rw [encPs_cons]; exact bytes_append (enc_bytes _) (bytes_append (enc_bytes _) ih)
theorem encP_bytes (l : List (Nat × Nat)) : Bytes (encP l) := bytes_append (enc_bytes _) (encPs_bytes l)
theorem plE_bytes (f t : List Nat) (s b : List (Nat × Nat)) : Bytes (plE f t s b) :=
  bytes_append (encL_bytes f) (bytes_append (encL_bytes t) (bytes_append (encP_bytes s) (bytes_append (encP_bytes b) bytes_nil)))
theorem plE_lens (f t : List Nat) (s b : List (Nat × Nat)) : f.length ≤ (plE f t s b).length ∧ t.length ≤ (plE f t s b).length ∧ s.length ≤ (plE f t s b).length ∧ b.length ≤ (plE f t s b).length := by
  have h1 := encs_ge f
  have h2 := encs_ge t
  have h3 := encPs_ge s
  have h4 := encPs_ge b
  simp only [plE, encL, encP, List.length_append]
  omega
theorem plO_len (fs ts : List Int) (ps qs : List (Int × Int)) (h1 : fs.length ≤ 10000) (h2 : ts.length ≤ 10000) (h3 : ps.length ≤ 10000) (h4 : qs.length ≤ 10000) : (plO fs ts ps qs).length ≤ 1000000000 := by
  have he1 := enc_small (n := fs.length) (by omega)
  have he2 := enc_small (n := ts.length) (by omega)
  have he3 := enc_small (n := ps.length) (by omega)
  have he4 := enc_small (n := qs.length) (by omega)
  have ho1 := outs_len fs
  have ho2 := outs_len ts
  have ho3 := outP_len ps
  have ho4 := outP_len qs
  simp only [plO, List.length_append]
  omega
theorem plO_bytes {fs ts : List Int} {ps qs : List (Int × Int)} (h : plB fs ts ps qs = false) : Bytes (plO fs ts ps qs) := by
  obtain ⟨f, t, s, b, rfl, rfl, rfl, rfl, hf, ht, hs, hb⟩ := pl_good h
  rw [(plO_casts hf ht hs hb).1]
  exact plE_bytes _ _ _ _
/-- The four slices that GetPlan gave, as lists. -/
theorem rdPl_of {w : World} {base n1 n2 n3 n4 d1 d2 d3 d4 : Nat} {B1 B2 B3 B4 : Option Addr} {x1 x2 : Sum Int (List Nat × List Int)} {x3 x4 : Sum Int (List (Nat × Nat) × List Int)}
    (h1 : ListI w base (.slice B1 n1 d1) x1) (h2 : ListI w base (.slice B2 n2 d2) x2) (h3 : ListP 71 w base (.slice B3 n3 d3) x3) (h4 : ListP 90 w base (.slice B4 n4 d4) x4)
    {f t : List Nat} {s b : List (Nat × Nat)} (e1 : ∃ r, x1 = .inr (f, r)) (e2 : ∃ r, x2 = .inr (t, r)) (e3 : ∃ r, x3 = .inr (s, r)) (e4 : ∃ r, x4 = .inr (b, r))
    (l1 : f.length ≤ 10000) (l2 : t.length ≤ 10000) (l3 : s.length ≤ 10000) (l4 : b.length ≤ 10000) :
    n1 = (casts f).length ∧ n2 = (casts t).length ∧ n3 = (casts2 s).length ∧ n4 = (casts2 b).length ∧ RdPl w w.heap.size B1 B2 B3 B4 (casts f) (casts t) (casts2 s) (casts2 b) := by
  obtain ⟨_, rfl⟩ := e1
  obtain ⟨_, rfl⟩ := e2
  obtain ⟨_, rfl⟩ := e3
  obtain ⟨_, rfl⟩ := e4
  obtain ⟨a1, b1, c1, k1⟩ := Own.shape h1
  obtain ⟨a2, b2, c2, k2⟩ := Own.shape h2
  obtain ⟨a3, k3⟩ := OwnZ.rd (OwnP.z h3)
  obtain ⟨a4, k4⟩ := OwnZ.rd (OwnP.z h4)
  injection c1 with c11 c12 c13
  injection c2 with c21 c22 c23
  subst c11 c21
  refine ⟨by rw [c12, casts_len], by rw [c22, casts_len], a3, a4, ?_, ?_, k3, k4, ?_, ?_, ?_, ?_⟩
  · rw [casts_len]; exact k1
  · rw [casts_len]; exact k2
  · rw [casts_len]; exact l1
  · rw [casts_len]; exact l2
  · rw [casts2_len]; exact l3
  · rw [casts2_len]; exact l4
theorem rdPl_back {w : World} {base n1 n2 n3 n4 d1 d2 d3 d4 : Nat} {B1 B2 B3 B4 : Option Addr} {fs ts : List Int} {ps qs : List (Int × Int)} (hb : plB fs ts ps qs = false)
    (l1 : fs.length ≤ 10000) (l2 : ts.length ≤ 10000) (l3 : ps.length ≤ 10000) (l4 : qs.length ≤ 10000) : endS (plS4 (.inr (plO fs ts ps qs))) = 0 ∧ (
    ListI w base (.slice B1 n1 d1) (lstS (.inr (plO fs ts ps qs))) → ListI w base (.slice B2 n2 d2) (lstS (plS1 (.inr (plO fs ts ps qs)))) → ListP 71 w base (.slice B3 n3 d3) (lstPS (plS2 (.inr (plO fs ts ps qs)))) → ListP 90 w base (.slice B4 n4 d4) (lstPS (plS3 (.inr (plO fs ts ps qs)))) →
    n1 = fs.length ∧ n2 = ts.length ∧ n3 = ps.length ∧ n4 = qs.length ∧ RdPl w w.heap.size B1 B2 B3 B4 fs ts ps qs) := by
  obtain ⟨f, t, s, b, rfl, rfl, rfl, rfl, hf, ht, hs, hbb⟩ := pl_good hb
  rw [(plO_casts hf ht hs hbb).1]
  rw [casts_len] at l1 l2
  rw [casts2_len] at l3 l4
  obtain ⟨e1, e2, e3, e4, e5⟩ := plS_enc hf ht hs hbb (by omega) (by omega) (by omega) (by omega)
  exact ⟨e5, fun h1 h2 h3 h4 => rdPl_of h1 h2 h3 h4 e1 e2 e3 e4 l1 l2 l3 l4⟩
theorem rdPl_odd {w : World} {base n1 n2 n3 n4 d1 d2 d3 d4 : Nat} {B1 B2 B3 B4 : Option Addr} {bs : List Int} (hb : Bytes bs) (hl : bs.length ≤ 1000) (h0 : endS (plS4 (.inr bs)) = 0)
    (h1 : ListI w base (.slice B1 n1 d1) (lstS (.inr bs))) (h2 : ListI w base (.slice B2 n2 d2) (lstS (plS1 (.inr bs)))) (h3 : ListP 71 w base (.slice B3 n3 d3) (lstPS (plS2 (.inr bs)))) (h4 : ListP 90 w base (.slice B4 n4 d4) (lstPS (plS3 (.inr bs)))) :
    ∃ fs ts ps qs, n1 = fs.length ∧ n2 = ts.length ∧ n3 = ps.length ∧ n4 = qs.length ∧ RdPl w w.heap.size B1 B2 B3 B4 fs ts ps qs ∧ plO fs ts ps qs = bs ∧ plB fs ts ps qs = false := by
  obtain ⟨f, t, s, b, e1, e2, e3, e4, hf, ht, hs, hbb, hE⟩ := plS_back hb h0
  obtain ⟨l1, l2, l3, l4⟩ := plE_lens f t s b
  rw [← hE] at l1 l2 l3 l4
  obtain ⟨a1, a2, a3, a4, a5⟩ := rdPl_of h1 h2 h3 h4 e1 e2 e3 e4 (by omega) (by omega) (by omega) (by omega)
  obtain ⟨k1, k2⟩ := plO_casts hf ht hs hbb
  exact ⟨_, _, _, _, a1, a2, a3, a4, a5, by rw [k1]; exact hE.symm, k2⟩
end Go.Proofs.Ytolgmoaoheflcaa
