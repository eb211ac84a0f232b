/-
  RANGES: the range of one comparison in memory; the guards of a drawn region.
  CONTRACT of the document's own package of layer 2: Has (printed by genrrh.py).
-/
import Derived.Test.YtpnbbbhbbnemlaaGreatDoorRMa
import Derived.Test.YtpnbbbhbbnemlaaGreatDoorInv
import Derived.Deep.DeepCutAuto
import Derived.Test.YtpnbbbhbbnemlaaGreatDoorRRR
namespace Go.Proofs.YtpnbbbhbbnemlaaGreatDoor
section
open Go.RowKit
open SemP
set_option linter.unusedVariables false
set_option linter.unusedSimpArgs false
set_option maxRecDepth 100000

/-- The range of one comparison, in memory. -/
def OfAt (w : World) (x : CV) (v : Value) : Prop := ∃ g B, v = .agg #[.slice (some ⟨g, 0, none⟩) 1 1] ∧ B ≤ w.heap.size ∧ RdR w B (some ⟨g, 0, none⟩) 1 [[x]]
theorem OfAt.below {w w' : World} {x : CV} {v : Value} (h : OfAt w x v) (hb : Below w.heap.size w w') : OfAt w' x v := by
  obtain ⟨g, B, e, hB, hr⟩ := h
  exact ⟨g, B, e, Nat.le_trans hB hb.size, hr.below (hb.mono hB)⟩
theorem OfAt.drew {w : World} {x : CV} {v : Value} (h : OfAt w x v) : OfAt { w with drawn := w.drawn + 1 } x v := h
theorem fits_one {x : CV} (h : x.s.size < 4294967281) : Fits [[x]] := by
  intro l hl
  simp at hl
  subst hl
  exact ⟨fun y hy => by simp at hy; subst hy; exact h, by simp⟩
theorem hasOf_any (x : CV) (v : Value) (a b c : Int) (s : ByteArray) (w : World) (ho : OfAt w x v) (hx : x.s.size < 4294967281) (hs : s.size < 4294967281) (hm : LenAt w) (h1 : 1 < w.heap.size) :
    Calls Tryz.prog 27 #[v, verV a b c s] w fun e w' => e = .returned (.bool (hasR [[x]] ⟨a, b, c, bs s⟩)) ∧ Below w.heap.size w w' := by
  obtain ⟨g, B, rfl, hB, hr⟩ := ho
  exact RgHas_any _ 1 1 [[x]] a b c s w B hr hB (fits_one hx) hs (by decide) hm h1
section
variable {P : Program} {ops : Array Oper} {Q : Exit → Act → World → Prop}
theorem wpOp_want {i : Nat} {o : Oper} {a : Act} {w : World} {K0 : Act → World → Prop} (ho : ops[i]? = some o) (j : Nat) (b : Bool) (hg : o.guard = some (j, b)) (hy : yielded ops a.tmps j = some b)
    (h : ∀ K : Act → World → Prop, Hid (∀ a' w', K0 a' w' → K a' w') → o.wp P a w K Q) : wpOp P ops Q i K0 a w := by
  unfold wpOp
  rw [ho]
  have hw : Region.wanted o (yielded ops a.tmps) = true := by unfold Region.wanted; rw [hg]; simp [hy]
  simp only [hw, if_true]
  exact .inl (h K0 (Lib.hid fun _ _ h => h))
theorem wpOp_skip {i : Nat} {o : Oper} {a : Act} {w : World} {K0 : Act → World → Prop} (ho : ops[i]? = some o) (j : Nat) (b : Bool) (hg : o.guard = some (j, b)) (hy : yielded ops a.tmps j = some (!b))
    (h : K0 (a.put o.dst undef) w) : wpOp P ops Q i K0 a w := by
  unfold wpOp
  rw [ho]
  have hw : Region.wanted o (yielded ops a.tmps) = false := by unfold Region.wanted; rw [hg]; cases b <;> simp [hy]
  simp only [hw]
  exact h
end
theorem right_zero : CV.right ⟨0, 0, 0, 0, ⟨#[]⟩⟩ = true := by
  unfold CV.right; rw [if_pos rfl]; exact verEq_true _ _ _ _
end
section
open Go.RowKit
open SemP
set_option linter.unusedVariables false
set_option linter.unusedSimpArgs false
set_option maxRecDepth 100000
theorem all_take {l : List CV} {p : CV → Bool} {k : Nat} (hk : k < l.length) : (l.take (k + 1)).all p = ((l.take k).all p && p (cvAt l k)) := by
  rw [List.take_succ_eq_append_getElem hk, List.all_append]
  simp [cvAt, List.getD, hk]
theorem rightR_len {r : List (List CV)} (h : rightR r = true) : 1 ≤ r.length ∧ r.length ≤ 8 := by
  unfold rightR at h; simp only [Bool.and_eq_true, decide_eq_true_eq] at h; exact h.1
theorem rightR_list {r : List (List CV)} (h : rightR r = true) {l : List CV} (hl : l ∈ r) : (1 ≤ l.length ∧ l.length ≤ 8) ∧ ∀ x ∈ l, x.right = true := by
  unfold rightR at h
  rw [Bool.and_eq_true, List.all_eq_true] at h
  have h := h.2 l hl
  unfold rightL at h
  rw [Bool.and_eq_true, List.all_eq_true, Bool.and_eq_true, decide_eq_true_eq, decide_eq_true_eq] at h
  exact h
structure RhSt (w0 : World) (pr0 vsl pr1 vli pr2 vc vv : Value) (ii kk : Int) (q : Bool) (b0 b1 b2 b3 b4 b5 b6 b7 b8 b9 b10 b11 b12 b13 : Bool) (v6 v33 v34 v35 v36 v37 v38 v39 v40 v41 v42 v43 v44 v45 : Value) (w' : World) : Prop where
  bel : Below w0.heap.size w0 w'
  h0 : b0 = true → v33 = .bool true
  h1 : b1 = true → v34 = .bool true
  h2 : b2 = true → v35 = pr0
  h3 : b3 = true → v36 = vsl
  h4 : b4 = true → v37 = .int .i64 ii
  h5 : b5 = true → v38 = pr1
  h6 : b6 = true → v39 = vli
  h7 : b7 = true → v40 = .int .i64 kk
  h8 : b8 = true → v41 = pr2
  h9 : b9 = true → v42 = vc
  h10 : b10 = true → v43 = vv
  h11 : b11 = true → v44 = .bool q
  h12 : b12 = true → v45 = .bool q
  h13 : b13 = true → v6 = .bool q
  ini : b0 = false → v6 = .bool true
inductive RhJ (w0 : World) (pr0 vsl pr1 vli pr2 vc vv : Value) (ii kk : Int) (q : Bool) (p0 p1 p2 p3 p4 p5 p7 p8 p9 p10 p11 p12 p13 p14 p15 p16 p17 p18 p19 p20 p21 p22 p23 p24 p25 p26 p27 p28 p29 p30 p31 p32 p46 : Value) : Array Bool → Act → World → Prop where
  | mk (b0 b1 b2 b3 b4 b5 b6 b7 b8 b9 b10 b11 b12 b13 : Bool) (v6 v33 v34 v35 v36 v37 v38 v39 v40 v41 v42 v43 v44 v45 : Value) (w' : World) : RhSt w0 pr0 vsl pr1 vli pr2 vc vv ii kk q b0 b1 b2 b3 b4 b5 b6 b7 b8 b9 b10 b11 b12 b13 v6 v33 v34 v35 v36 v37 v38 v39 v40 v41 v42 v43 v44 v45 w' → RhJ w0 pr0 vsl pr1 vli pr2 vc vv ii kk q p0 p1 p2 p3 p4 p5 p7 p8 p9 p10 p11 p12 p13 p14 p15 p16 p17 p18 p19 p20 p21 p22 p23 p24 p25 p26 p27 p28 p29 p30 p31 p32 p46 #[b0, b1, b2, b3, b4, b5, b6, b7, b8, b9, b10, b11, b12, b13] { tmps := List.toArray (p0 :: p1 :: p2 :: p3 :: p4 :: p5 :: v6 :: p7 :: p8 :: p9 :: p10 :: p11 :: p12 :: p13 :: p14 :: p15 :: p16 :: p17 :: p18 :: p19 :: p20 :: p21 :: p22 :: p23 :: p24 :: p25 :: p26 :: p27 :: p28 :: p29 :: p30 :: p31 :: p32 :: v33 :: v34 :: v35 :: v36 :: v37 :: v38 :: v39 :: v40 :: v41 :: v42 :: v43 :: v44 :: v45 :: p46 :: []), defers := [] } w'
end
end Go.Proofs.YtpnbbbhbbnemlaaGreatDoor
