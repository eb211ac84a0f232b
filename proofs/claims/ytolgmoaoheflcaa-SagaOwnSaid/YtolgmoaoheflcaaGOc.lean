/-
 An append to an empty row of one's own, as one operation of a drawn region; slices l[:n].
-/
import Derived.Test.YtolgmoaoheflcaaGBh
import Derived.Test.YtolgmoaoheflcaaGOp
import Derived.Deep.Upon
namespace Go.Proofs.Ytolgmoaoheflcaa.Sa
open Go.RowKit
open DiP
set_option linter.unusedVariables false
set_option linter.unusedSimpArgs false
set_option maxRecDepth 10000
section
variable {α : Type} {E : TypeId} {z : Nat} {f : α → List Value} {w : World}
theorem opF_app0 {S : TypeId} {bytes : Nat} {zero : Value} (hz : ∀ x, (f x).length = z) (h1c : ∀ x, ∀ u ∈ f x, u.oneCell' = true) (hu : Try.prog.underlying S = some (.slice E)) (hinfo : (Try.prog.info? E).map (fun i => (i.zero, i.size, i.bytes)) = some (some zero, z, bytes)) (hzs : zero.cells.size = z) (hz0 : 0 < z) (hby : bytes ≤ 100000)
  {o : Oper} {a : Act} {K : Act → World → Prop} {Q : Exit → Act → World → Prop} (s x : Operand)
  (ho : o.op = .call { callee := .builtin .append, args := #[s, x], argTypes := #[S, S] })
  (base b0 : Nat) (hs : a.eval s = .slice (some ⟨b0, 0, none⟩) 0 0) (hown : OwnF E z f w base (.slice (some ⟨b0, 0, none⟩) 0 0) ([] : List α))
  (A : Option Addr) (m d : Nat) (ys : List α) (hx : a.eval x = .slice A m d) (hm : ys.length = m) (hc : 0 < m → ∃ b off, A = some ⟨b, off, none⟩ ∧ b < w.heap.size ∧ ∀ j u, (ys.flatMap f)[j]? = some u → w.cell? ⟨b, off + j, none⟩ = some u) (hn : m ≤ 1000000000) (hbase : base ≤ w.heap.size)
  (h : ∀ A' c w', OwnF E z f w' base (.slice A' m c) ys → w.grownBy w' (some b0) → ((Value.slice A' m c).ownBlock = some b0 ∨ (Value.slice A' m c).ownBlock = some w.heap.size) → K (a.put o.dst (.slice A' m c)) w') :
  o.wp Try.prog a w K Q := by
 obtain ⟨i0, hi, hz0', hz1, hz2⟩ := info_parts hinfo
 rcases Nat.eq_zero_or_pos m with h0 | h0
 ·subst h0
  obtain rfl : ys = [] := List.eq_nil_of_length_eq_zero hm
  unfold Oper.wp execOp
  have hsrc : Src Try.prog i0.size S (.slice A 0 d) 0 [] w := by
   cases A with
   | none => exact Src.ofNil w hu d
   | some p => exact Src.ofSlice w hu p 0 d [] (by simp) (by intro j u h; simp at h) (by intro u h; cases h)
  have hr := run_append_nothing (P := Try.prog) w S S o.type E i0 hu hi (some ⟨b0, 0, none⟩) 0 0 (Nat.le_refl _) (.slice A 0 d) hsrc
  simp only [ho, resolve, invoke, builtin, Sem.run_bind, Sem.run_pure, Result.andThen_ok, List.map_toArray, List.map_cons, List.map_nil, hs, hx, hr]
  exact h _ _ w hown ⟨rfl, rfl, rfl, Nat.le_refl _, fun _ _ _ => rfl⟩ (.inl rfl)
 ·obtain ⟨b, off, rfl, _, hcc⟩ := hc h0
  obtain ⟨v', w', hr, hown', hg, _, hat⟩ := run_append_own_at (P := Try.prog) w base S o.type E i0 zero z bytes hu hi hz0' hz1 hz2 hzs hz0 (.slice (some ⟨b0, 0, none⟩) 0 0) 0 _ hown ⟨b, off, none⟩ m d (ys.flatMap f) (by rw [flatF_len hz, hm]) (by
   intro j u hju
   rw [addr_add]; exact hcc j u hju) (fun u hu => by obtain ⟨x, _, hx⟩ := List.mem_flatMap.1 hu; exact h1c x u hx) (by unfold maxLen; omega) (by have := Nat.mul_le_mul (show 0 + m ≤ 1000000000 by omega) hby; omega) hbase
  unfold Oper.wp execOp
  simp only [ho, resolve, invoke, builtin, Sem.run_bind, Sem.run_pure, Result.andThen_ok, List.map_toArray, List.map_cons, List.map_nil, hs, hx, hr]
  have ho' : OwnF E z f w' base v' ys := by
   unfold OwnF
   rw [hm]
   simpa using hown'
  obtain ⟨A', c, hv⟩ := ho'.shape
  rw [hm] at hv
  subst hv
  exact h A' c w' ho' hg hat
end
/-- s[:k]. -/
theorem slice_to {S E : TypeId} {z bytes : Nat} {zero : Value} (hu : Try.prog.underlying S = some (.slice (Try.prog.elem S))) (hel : Try.prog.elem S = E) (hinfo : (Try.prog.info? E).map (fun i => (i.zero, i.size, i.bytes)) = some (some zero, z, bytes)) {A : Option Addr} {n c : Nat} (h : CapA A n c) {q : Nat} (hq : q ≤ n) (w : World) :
    (Instr.slice S (.slice A n c) none (some (.int .i64 (q : Int))) none).run Try.prog w = .ok (.slice A q c) w := by
  have hqc : (q : Int) ≤ (c : Int) := by
    rcases h with ⟨_, h1, h2⟩ | ⟨_, _, h1, _⟩ <;> omega
  have hr := run_slice_h (P := Try.prog) w S A n c hu .i64 (q : Int) (by omega) hqc
  rw [hr]
  obtain ⟨i0, hi, hz0, hz1, hz2⟩ := info_parts hinfo
  rw [hel, show (sizeOf E).run Try.prog w = .ok i0.size w by simp [sizeOf, typeInfo, hi], hz1]
  rcases h with ⟨rfl, _, rfl⟩ | ⟨x, rfl, _, _⟩
  · simp [sliced, go_sem]
  · simp [sliced, go_sem]
theorem infoRec : (Try.prog.info? 33).map (fun i => (i.zero, i.size, i.bytes)) = some (some (.agg #[.int .i64 0, .int .i64 0, .slice none 0 0, .slice none 0 0, .slice none 0 0, .slice none 0 0]), 6, 112) := by kernel_rfl
theorem slice_rec {A : Option Addr} {n c : Nat} (h : CapA A n c) {q : Nat} (hq : q ≤ n) (w : World) : (Instr.slice 22 (.slice A n c) none (some (.int .i64 (q : Int))) none).run Try.prog w = .ok (.slice A q c) w :=
  slice_to Try.underlying22 (by kernel_rfl) infoRec h hq w
section
variable {H : Type} {enc : TypeId × Value → H} {w : World} {held : Bool}
set_option maxRecDepth 20000 in
theorem open_recordsC {A : Option Addr} {n c : Nat} {d : DataW H} {ps : List MemPlace} (h : DataW.Trod enc Try.prog w 0 (fun _ => true) held 22 (.slice A n c) d ps) : ∃ l : List RcV, RdL w w.heap.size A n l ∧ CapA A n c := by
 obtain ⟨fuel, hf0⟩ := h
 have hf : DataW.trod enc Try.prog w 0 (fun _ => true) held fuel 22 [.slice A n c] = some (d, ps) := by simpa [Value.cells] using hf0
 obtain ⟨x, A', n', c', e, hc, hl, hj⟩ := opn_records hf
 injection e with e _
 injection e with e1 e2 e3
 subst e1 e2 e3
 refine ⟨x.map (fun y => ⟨y.1, y.2.1, ⟨y.2.2.1, y.2.2.2.1, y.2.2.2.2.1, y.2.2.2.2.2⟩⟩), ⟨by rw [List.length_map]; exact hl, by rcases hc with ⟨_, h, _⟩ | ⟨_, _, h, h2⟩ <;> omega, fun j hjn => ?_⟩, hc⟩
 obtain ⟨b, off, vs, e, hb, _, _, hcc, us1, ts1, e1, h1, us2, ts2, e2, h2, h3⟩ := hj j hjn
 obtain ⟨BF, mF, dF, BT, mT, dT, BS, mS, dS, BE, mE, dE, e4, hp⟩ := plI.parts h3
 have h1' : us1 = [.int .i64 (x.getD j default).1] := h1
 have h2' : us2 = [.int .i64 (x.getD j default).2.1] := h2
 subst h1' h2' e4 e2 e1
 have hg : rcAt (x.map (fun y => (⟨y.1, y.2.1, ⟨y.2.2.1, y.2.2.2.1, y.2.2.2.2.1, y.2.2.2.2.2⟩⟩ : RcV))) j = ⟨(x.getD j default).1, (x.getD j default).2.1, ⟨(x.getD j default).2.2.1, (x.getD j default).2.2.2.1, (x.getD j default).2.2.2.2.1, (x.getD j default).2.2.2.2.2⟩⟩ := by
  unfold rcAt
  have hjx : j < x.length := by omega
  simp [List.getD, hjx]
 rw [hg]
 exact ⟨b, off, BF, mF, dF, BT, mT, dT, BS, mS, dS, BE, mE, dE, e, hb, hcc 0 _ rfl, hcc 1 _ rfl, hcc 2 _ rfl, hcc 3 _ rfl, hcc 4 _ rfl, hcc 5 _ rfl, hp⟩
end
end Go.Proofs.Ytolgmoaoheflcaa.Sa
