/-
  CONTRACTS of the program's reader of layer 12: pairs of numbers, steps.
-/
import Derived.Test.YtolgmoaoheflcaaPPut
namespace Go.Proofs.Ytolgmoaoheflcaa
open Go.RowKit
open ByteP CodeP
set_option linter.unusedVariables false
set_option maxRecDepth 10000

/-- Two numbers. -/
def rd2 (r : List Int) : Sum Int ((Nat × Nat) × List Int) :=
  match num r with
  | .inl e => .inl e
  | .inr (x, r1) =>
    match num r1 with
    | .inl e => .inl e
    | .inr (y, r2) => .inr ((x, y), r2)
def Rd2P (w0 w : World) (rb B : Nat) (res : Sum Int ((Nat × Nat) × List Int)) (a b : Int) : Prop :=
  w0.grownBy w (some rb) ∧ match res with
    | .inl e => ∃ r, Rdr w rb B r e
    | .inr (p, r) => a = (p.1 : Int) ∧ b = (p.2 : Int) ∧ Rdr w rb B r 0
theorem Rdr.far {w : World} {rb B : Nat} {rest : List Int} {e : Int} (h : Rdr w rb B rest e) {g i : Nat} (hg : rb < g) (u : Value) : Rdr (w.setCell ⟨g, i, none⟩ u) rb B rest e :=
  h.grown (row := some g) (grown_set w g i u) (fun g' hg' => by injection hg' with e; omega)
theorem rd2_err {r : List Int} {e : Int} (h : num r = .inl e) : rd2 r = .inl e := by unfold rd2; rw [h]
theorem rd2_err2 {r r1 : List Int} {x : Nat} {e : Int} (h : num r = .inr (x, r1)) (h2 : num r1 = .inl e) : rd2 r = .inl e := by unfold rd2; rw [h]; simp only; rw [h2]
theorem rd2_ok {r r1 r2 : List Int} {x y : Nat} (h : num r = .inr (x, r1)) (h2 : num r1 = .inr (y, r2)) : rd2 r = .inr ((x, y), r2) := by unfold rd2; rw [h]; simp only; rw [h2]
/-- The second number, whatever became of the first. -/
theorem number_then {w0 w : World} {rb B : Nat} {rest : List Int} {n : Int} (h : NumP w0 w rb B (num rest) n) (hb : Bytes rest) :
    Calls Try.prog 79 #[.pointer (some ⟨rb, 0, none⟩)] w fun en w' => ∃ m, en = .returned (.int .i64 m) ∧ Rd2P w0 w' rb B (rd2 rest) n m ∧ w.grownBy w' (some rb) := by
  cases hres : num rest with
  | inl e =>
    rw [hres] at h
    obtain ⟨hg, rfl, r, hr⟩ := h
    have he := num_err hres
    refine (number_err hr (by omega)).mono ?_
    rintro en w' ⟨rfl, h1, h2⟩
    exact ⟨0, rfl, ⟨grown_add hg h2, by rw [rd2_err hres]; exact ⟨r, h1⟩⟩, h2⟩
  | inr p =>
    obtain ⟨x, r1⟩ := p
    rw [hres] at h
    obtain ⟨hg, rfl, hr⟩ := h
    refine (number_go hr (num_bytes hb hres)).mono ?_
    rintro en w' ⟨m, rfl, h1⟩
    refine ⟨m, rfl, ⟨grown_add hg h1.1, ?_⟩, h1.1⟩
    cases hres2 : num r1 with
    | inl e =>
      rw [hres2] at h1
      obtain ⟨_, _, r, hr2⟩ := h1
      rw [rd2_err2 hres hres2]
      exact ⟨r, hr2⟩
    | inr p =>
      obtain ⟨y, r2⟩ := p
      rw [hres2] at h1
      obtain ⟨_, e1, hr2⟩ := h1
      rw [rd2_ok hres hres2]
      exact ⟨rfl, e1, hr2⟩
theorem NumP.shift {w0 w w' : World} {rb B : Nat} {res : Sum Int (Nat × List Int)} {n : Int} (h : NumP w0 w rb B res n) (hg : w.grownBy w' (some rb)) (hr : ∀ {r : List Int} {e : Int}, Rdr w rb B r e → Rdr w' rb B r e) : NumP w0 w' rb B res n := by
  refine ⟨grown_add h.1 hg, ?_⟩
  have h2 := h.2
  cases res with
  | inl e => obtain ⟨e1, r, h3⟩ := h2; exact ⟨e1, r, hr h3⟩
  | inr p => obtain ⟨e1, h3⟩ := h2; exact ⟨e1, hr h3⟩
theorem Rd2P.shift {w0 w w' : World} {rb B : Nat} {res : Sum Int ((Nat × Nat) × List Int)} {a b : Int} (h : Rd2P w0 w rb B res a b) (hg : w.grownBy w' (some rb)) (hr : ∀ {r : List Int} {e : Int}, Rdr w rb B r e → Rdr w' rb B r e) : Rd2P w0 w' rb B res a b := by
  refine ⟨grown_add h.1 hg, ?_⟩
  have h2 := h.2
  cases res with
  | inl e => obtain ⟨r, h3⟩ := h2; exact ⟨r, hr h3⟩
  | inr p => obtain ⟨e1, e2, h3⟩ := h2; exact ⟨e1, e2, hr h3⟩
theorem grown_alloc1 (w : World) (o : Obj) (row : Option Nat) : w.grownBy (w.alloc o) row := ⟨rfl, rfl, rfl, by simp, fun k hk _ => Below.heap_alloc w o k hk⟩
theorem heap_new (w : World) (o : Obj) : (w.alloc o).heap[w.heap.size]? = some o := by
  unfold World.alloc
  exact Array.getElem?_push_size
theorem grown_set_new {w0 w : World} {row : Option Nat} (h : w0.grownBy w row) {g i : Nat} (hg : w0.heap.size ≤ g) (u : Value) : w0.grownBy (w.setCell ⟨g, i, none⟩ u) row := by
  have h2 := grown_set w g i u
  obtain ⟨a1, a2, a3, a4, a5⟩ := h
  obtain ⟨b1, b2, b3, b4, b5⟩ := h2
  refine ⟨b1.trans a1, b2.trans a2, b3.trans a3, Nat.le_trans a4 b4, fun k hk hr => ?_⟩
  rw [b5 k (Nat.lt_of_lt_of_le hk a4) (fun e => by injection e with e; omega)]
  exact a5 k hk hr
theorem Rd2P.far {w0 w : World} {rb B : Nat} {res : Sum Int ((Nat × Nat) × List Int)} {a b : Int} (h : Rd2P w0 w rb B res a b) (hrb : rb < w0.heap.size) {g i : Nat} (hg : w0.heap.size ≤ g) (u : Value) : Rd2P w0 (w.setCell ⟨g, i, none⟩ u) rb B res a b := by
  refine ⟨grown_set_new h.1 hg u, ?_⟩
  have h2 := h.2
  cases res with
  | inl e => obtain ⟨r, h3⟩ := h2; exact ⟨r, h3.far (by omega) u⟩
  | inr p => obtain ⟨e1, e2, h3⟩ := h2; exact ⟨e1, e2, h3.far (by omega) u⟩
set_option maxHeartbeats 1000000 in
theorem stepR_go {w : World} {rb B : Nat} {rest : List Int} (h : Rdr w rb B rest 0) (hb : Bytes rest) :
    Calls Try.prog 62 #[.pointer (some ⟨rb, 0, none⟩)] w fun en w' => ∃ a b, en = .returned (.agg #[.int .i64 a, .int .i64 b]) ∧ Rd2P w w' rb B (rd2 rest) a b := by
  have hlt := h.here
  obtain ⟨w1, HW1⟩ : ∃ w1, Hid (w1 = w.alloc (.cells #[.int .i64 0, .int .i64 0] 71)) := ⟨_, Lib.hid rfl⟩
  have H1 := Lib.hid (number_go (h.alloc (.cells #[.int .i64 0, .int .i64 0] 71)) hb)
  have HBY := Lib.hid hb
  clear h hb
  go_enter Try.func62, Try.ntmps62
  go_wp2_with fail
  refine H1.out.mono ?_
  rintro en w2 ⟨n, rfl, hn⟩
  go_wp2_with fail
  have HN2 := Lib.hid (number_then (NumP.shift hn (grown_alloc1 w2 (.cells #[.int .i64 n, .int .i64 0] 71) (some rb)) (fun h => h.alloc _)) HBY.out)
  have hg12 := hn.1
  refine HN2.out.mono ?_
  clear HN2
  rintro en w3 ⟨m, rfl, h3, hg23⟩
  have hz1 : (w.alloc (.cells #[.int .i64 0, .int .i64 0] 71)).heap.size = w.heap.size + 1 := by simp
  have hz2 := hg12.size
  have hz3 := hg23.size
  have hz4 : (w2.alloc (.cells #[.int .i64 n, .int .i64 0] 71)).heap.size = w2.heap.size + 1 := by simp
  have hA : w3.heap[w.heap.size]? = some (.cells #[.int .i64 0, .int .i64 0] 71) := by
    rw [hg23.block _ (by omega) (fun e => by injection e with e; omega), Below.heap_alloc _ _ _ (by omega), hg12.block _ (by omega) (fun e => by injection e with e; omega)]
    exact heap_new _ _
  have hB : w3.heap[w2.heap.size]? = some (.cells #[.int .i64 n, .int .i64 0] 71) := by
    rw [hg23.block _ (by omega) (fun e => by injection e with e; omega)]
    exact heap_new _ _
  obtain ⟨ca0, ca1, fa0, fa1⟩ := row2 hA
  obtain ⟨cb0, cb1, fb0, fb1⟩ := row2 hB
  have hne : w.heap.size ≠ w2.heap.size := by omega
  have hne2 : w2.heap.size ≠ w.heap.size := by omega
  have HF : Hid (Rd2P (w.alloc (.cells #[.int .i64 0, .int .i64 0] 71)) w3 rb B (rd2 rest) n m) := Lib.hid h3
  clear h3 hg12 hg23 hn hA hB
  go_wp2
  refine bodyPost_ret (v := .agg #[.int .i64 n, .int .i64 m]) (by simp [results, Try.results62, go_sem, ca0, ca1]) rfl ⟨n, m, rfl, ?_⟩
  refine Rd2P.far (Rd2P.far (Rd2P.far ⟨grown_add (grown_alloc1 w _ _) HF.out.1, HF.out.2⟩ hlt (by omega) _) hlt (Nat.le_refl _) _) hlt (Nat.le_refl _) _
set_option maxHeartbeats 1000000 in
theorem pairR_go {w : World} {rb B : Nat} {rest : List Int} (h : Rdr w rb B rest 0) (hb : Bytes rest) :
    Calls Try.prog 64 #[.pointer (some ⟨rb, 0, none⟩)] w fun en w' => ∃ a b, en = .returned (.agg #[.int .i64 a, .int .i64 b]) ∧ Rd2P w w' rb B (rd2 rest) a b := by
  have hlt := h.here
  have H1 := Lib.hid (number_go ((h.alloc (.cells #[.int .i64 0, .int .i64 0] 90)).alloc (.cells #[.int .i64 0, .int .i64 0] 90)) hb)
  have HBY := Lib.hid hb
  clear h hb
  go_enter Try.func64, Try.ntmps64
  go_wp2_with fail
  refine H1.out.mono ?_
  rintro en w2 ⟨n, rfl, hn⟩
  have hg12 := hn.1
  have hz0 : (w.alloc (.cells #[.int .i64 0, .int .i64 0] 90)).heap.size = w.heap.size + 1 := by simp
  have hz1 : ((w.alloc (.cells #[.int .i64 0, .int .i64 0] 90)).alloc (.cells #[.int .i64 0, .int .i64 0] 90)).heap.size = w.heap.size + 1 + 1 := by simp
  have hz2 := hg12.size
  have hA : w2.heap[w.heap.size]? = some (.cells #[.int .i64 0, .int .i64 0] 90) := by
    rw [hg12.block _ (by omega) (fun e => by injection e with e; omega), Below.heap_alloc _ _ _ (by omega)]
    exact heap_new _ _
  have hB : w2.heap[w.heap.size + 1]? = some (.cells #[.int .i64 0, .int .i64 0] 90) := by
    rw [hg12.block _ (by omega) (fun e => by injection e with e; omega), ← hz0]
    exact heap_new _ _
  have hs := grown_set w2 (w.heap.size + 1) 0 (.int .i64 n)
  have hg2 : ((w.alloc (.cells #[.int .i64 0, .int .i64 0] 90)).alloc (.cells #[.int .i64 0, .int .i64 0] 90)).grownBy (w2.setCell ⟨w.heap.size + 1, 0, none⟩ (.int .i64 n)) (some (w.heap.size + 1)) ∨ True := .inr trivial
  have HN0 : NumP (w.alloc (.cells #[.int .i64 0, .int .i64 0] 90)) (w2.setCell ⟨w.heap.size + 1, 0, none⟩ (.int .i64 n)) rb B (num rest) n := by
    refine ⟨grown_set_new (grown_add (grown_alloc1 _ _ _) hg12) (by omega) _, ?_⟩
    have h2 := hn.2
    cases hr : num rest with
    | inl e => rw [hr] at h2; obtain ⟨e1, r, h3⟩ := h2; exact ⟨e1, r, h3.far (by omega) _⟩
    | inr p => rw [hr] at h2; obtain ⟨e1, h3⟩ := h2; exact ⟨e1, h3.far (by omega) _⟩
  have HN2 := Lib.hid (number_then HN0 HBY.out)
  obtain ⟨ca0, ca1, fa0, fa1⟩ := row2 hA
  obtain ⟨cb0, cb1, fb0, fb1⟩ := row2 hB
  have hB2 : (w2.setCell ⟨w.heap.size + 1, 0, none⟩ (.int .i64 n)).heap[w.heap.size + 1]? = some (.cells #[.int .i64 n, .int .i64 0] 90) := heap_setCell_same w2 (w.heap.size + 1) 0 _ _ _ hB
  have hA2 : (w2.setCell ⟨w.heap.size + 1, 0, none⟩ (.int .i64 n)).heap[w.heap.size]? = some (.cells #[.int .i64 0, .int .i64 0] 90) := (Below.heap_setCell w2 _ _ _ (by simp)).trans hA
  have HH := Lib.hid (And.intro hA2 hB2)
  clear hg2 hs hA hB hA2 hB2 hn HN0
  go_wp2_with fail
  refine HN2.out.mono ?_
  clear HN2
  rintro en w3 ⟨m, rfl, h3, hg23⟩
  have hz3 := hg23.size
  have hz4 : (w2.setCell ⟨w.heap.size + 1, 0, none⟩ (.int .i64 n)).heap.size = w2.heap.size := by simp
  have hA3 : w3.heap[w.heap.size]? = some (.cells #[.int .i64 0, .int .i64 0] 90) := (hg23.block _ (by omega) (fun e => by injection e with e; omega)).trans HH.out.1
  have hB3 : w3.heap[w.heap.size + 1]? = some (.cells #[.int .i64 n, .int .i64 0] 90) := (hg23.block _ (by omega) (fun e => by injection e with e; omega)).trans HH.out.2
  clear ca0 ca1 fa0 fa1 cb0 cb1 fb0 fb1
  obtain ⟨ca0, ca1, fa0, fa1⟩ := row2 hA3
  obtain ⟨cb0, cb1, fb0, fb1⟩ := row2 hB3
  have HF : Hid (Rd2P (w.alloc (.cells #[.int .i64 0, .int .i64 0] 90)) w3 rb B (rd2 rest) n m) := Lib.hid h3
  clear h3 hg12 hg23 hA3 hB3 HH
  go_wp2
  refine bodyPost_ret (v := .agg #[.int .i64 n, .int .i64 m]) (by simp [results, Try.results64, go_sem, ca0, ca1]) rfl ⟨n, m, rfl, ?_⟩
  refine Rd2P.far (Rd2P.far (Rd2P.far ⟨grown_add (grown_alloc1 w _ _) HF.out.1, HF.out.2⟩ hlt (by omega) _) hlt (Nat.le_refl _) _) hlt (Nat.le_refl _) _
end Go.Proofs.Ytolgmoaoheflcaa
