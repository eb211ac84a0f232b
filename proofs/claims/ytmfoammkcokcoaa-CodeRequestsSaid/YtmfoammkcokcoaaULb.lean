/-
  What was read is a request again.
-/
import Derived.Test.YtmfoammkcokcoaaUMq
import Derived.Test.YtmfoammkcokcoaaUQq
namespace Go.Proofs.Ytmfoammkcokcoaa
open Go.RowKit
open ByteP CodeP
set_option linter.unusedVariables false
set_option maxRecDepth 10000
theorem psI.rd {w : World} {M : Nat → Prop} {A : Option Addr} {n c : Nat} {l : List (Int × List (List CV))} (h : psI w M [.slice A n c] l) : RdN w w.heap.size A n l := by
  obtain ⟨A', n', c', e, hr⟩ := h
  injection e with e _
  injection e with e1 e2 e3
  subst e1 e2 e3
  exact (hr.turn pn_turns (FrM.refl w M) (M' := fun b => w.heap.size ≤ b) (fun b hb => .inr hb)).n
theorem isI.rd {w : World} {M : Nat → Prop} {A : Option Addr} {n c : Nat} {l : List Int} (h : isI w M [.slice A n c] l) : Rd w w.heap.size A n l := by
  obtain ⟨A', n', c', e, hr⟩ := h
  injection e with e _
  injection e with e1 e2 e3
  subst e1 e2 e3
  refine ⟨hr.1, fun hn => ?_⟩
  obtain ⟨b, off, vs, e, hb, _, _, _, _⟩ := hr.2 0 hn
  refine ⟨b, off, e, hb, fun j hj => ?_⟩
  obtain ⟨b', off', vs', e', _, _, hl, hc, hi⟩ := hr.2 j hj
  rw [e] at e'
  injection e' with e'
  injection e' with e1 e2 _
  subst e1 e2
  have hi' : vs' = [.int .i64 (l.getD j default)] := hi
  subst hi'
  have := hc 0 _ rfl
  rw [Nat.mul_one, Nat.add_zero] at this
  exact this
theorem rqI.rd {w : World} {M : Nat → Prop} {A1 A2 : Option Addr} {n1 c1 n2 c2 : Nat} {l : List (Int × List (List CV))} {ms : List Int} (h : rqI w M [.slice A1 n1 c1, .slice A2 n2 c2] (l, ms)) (hs : ShN l) (hm : ms.length ≤ 10000) (hl : (outN l).length ≤ 400000000) :
    n1 = l.length ∧ n2 = ms.length ∧ RdRq w w.heap.size A1 A2 l ms := by
  obtain ⟨us, ts, e, h1, h2⟩ := h
  have h10 := h1
  have h20 := h2
  obtain ⟨B1, k1, d1, rfl, hr1⟩ := h1
  obtain ⟨B2, k2, d2, rfl, hr2⟩ := h2
  simp only [List.singleton_append, List.cons.injEq, and_true] at e
  obtain ⟨e1, e2⟩ := e
  injection e1 with a1 a2 a3
  injection e2 with b1 b2 b3
  subst a1 a2 a3 b1 b2 b3
  have r1 := psI.rd h10
  have r2 := isI.rd h20
  have q1 : n1 = l.length := r1.1.symm
  have q2 : n2 = ms.length := r2.1.symm
  subst q1 q2
  exact ⟨rfl, rfl, r1, r2, hs, hm, hl⟩
theorem mem_fl {α : Type} {e : α → List Int} : ∀ {l : List α} {x : α}, x ∈ l → (e x).length ≤ (fl e l).length
  | y :: l, x, h => by
    rw [fl_cons, List.length_append]
    rcases List.mem_cons.1 h with h | h
    · subst h; omega
    · have := mem_fl (e := e) h; omega
theorem okC_size {x : CV} (h : okC x) : x.s.size ≤ (compO x).length := by
  rcases okC_cases h with rfl | ⟨n, a, b, c, s, rfl, hn, hv⟩
  · exact Nat.zero_le _
  · rw [compO_of hn hv, List.length_append]
    have e : (verE (a, b, c, bsS s)).length = (enc a).length + ((enc b).length + ((enc c).length + ((enc (bsS s).length).length + (bsS s).length))) := by
      simp only [verE, List.length_append]
    rw [e, bsS_len]
    show s.size ≤ _
    omega
theorem okL_shC {l : List CV} (h : okL okC l) (hl : (lisO l).length ≤ 100000) : ShC l := by
  have h1 := fl_ge comp_both h.2
  have e : (lisO l).length = (enc l.length).length + (fl compO l).length := by rw [lisO_eq]; unfold lsE; rw [List.length_append]
  refine ⟨by omega, fun x hx => ?_⟩
  have h2 := mem_fl (e := compO) hx
  have h3 := okC_size (h.2 x hx)
  omega
theorem okR_shL {r : List (List CV)} (h : okR r) (hl : (rngO r).length ≤ 100000) : ShL r := by
  have h1 := fl_ge comp_both.list h.2
  have e : (rngO r).length = (enc r.length).length + (fl lisO r).length := by rw [rngO_eq, lisO_eq]; unfold lsE; rw [List.length_append]
  rw [← lisO_eq] at h1
  refine ⟨by omega, fun l hl2 => okL_shC (h.2 l hl2) ?_⟩
  have h2 := mem_fl (e := lisO) hl2
  omega
theorem okRq_shN {l : List (Int × List (List CV))} {ms : List Int} (h : okRq (l, ms)) (hl : (rqO l ms).length ≤ 100000) : ShN l ∧ ms.length ≤ 100000 ∧ (outN l).length ≤ 100000 := by
  have h1 := fl_ge pin_both h.1.2
  have h2 := fl_ge numI_both h.2.2
  have e : (rqO l ms).length = (enc l.length).length + (outN l).length + (enc ms.length).length + (outs ms).length := by unfold rqO; simp only [List.length_append]
  have e1 : (fl pinO l).length = (outN l).length := rfl
  have e2 : (fl outI ms).length = (outs ms).length := rfl
  simp only at h1 h2
  refine ⟨⟨by omega, fun p hp => okR_shL (h.1.2 p hp).2 ?_⟩, by omega, by omega⟩
  have h3 := mem_fl (e := pinO) hp
  have e3 : (pinO p).length = (outI p.1).length + (rngO p.2).length := by unfold pinO; rw [List.length_append]
  omega
theorem rq_written {l : List (Int × List (List CV))} {ms : List Int} (h : rqB l ms = false) (hs : ShN l) (hm : ms.length ≤ 10000) : Bytes (rqO l ms) ∧ endP rqP (rqO l ms) = 0 ∧ rqP (rqO l ms) = .inr ((l, ms), []) := by
  unfold rqB at h
  simp only [Bool.or_eq_false_iff] at h
  have hok : okRq (l, ms) := ⟨shN_ok h.1 hs, bads_ok h.2 (show ms.length ≤ _ by omega)⟩
  rw [rqO_eq]
  exact ⟨rq_both.bytes _ hok, endP_enc rq_both hok⟩
theorem rq_odd {bs : List Int} (hb : Bytes bs) (hl : bs.length ≤ 1000) (h0 : endP rqP bs = 0) : ∃ l ms, rqP bs = .inr ((l, ms), []) ∧ rqO l ms = bs ∧ rqB l ms = false ∧ ShN l ∧ ms.length ≤ 10000 ∧ (outN l).length ≤ 400000000 := by
  obtain ⟨⟨l, ms⟩, h1, h2, h3⟩ := endP_back rq_both hb h0
  have h4 : rqO l ms = bs := by rw [rqO_eq]; exact h3.symm
  obtain ⟨a, b, c⟩ := okRq_shN h1 (by rw [h4]; omega)
  have : ms.length ≤ (rqO l ms).length := by
    have h2 := fl_ge numI_both h1.2.2
    have e2 : (fl outI ms).length = (outs ms).length := rfl
    unfold rqO
    simp only [List.length_append]
    simp only at h2
    omega
  exact ⟨l, ms, h2, h4, okRq_bad h1, a, by rw [h4] at this; omega, by omega⟩
theorem rqO_len {l : List (Int × List (List CV))} {ms : List Int} (h : SmN l) (hm : ms.length ≤ 100) : (outN l).length ≤ 400000000 ∧ (rqO l ms).length ≤ 1000000000 := by
  have h1 := outN_le h.2
  have h2 := h.1
  have h3 := outs_len ms
  have h4 := enc_small (n := l.length) (by omega)
  have h5 := enc_small (n := ms.length) (by omega)
  refine ⟨by omega, ?_⟩
  unfold rqO
  simp only [List.length_append]
  omega
end Go.Proofs.Ytmfoammkcokcoaa
