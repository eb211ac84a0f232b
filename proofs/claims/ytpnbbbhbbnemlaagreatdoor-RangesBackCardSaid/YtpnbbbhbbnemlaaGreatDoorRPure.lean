/-
  RANGES: comparisons in memory, what the document says of them; contracts: right, rightList, Right.
-/
import Derived.Test.YtpnbbbhbbnemlaaGreatDoorSBump
import Derived.Test.YtpnbbbhbbnemlaaGreatDoorSGb
namespace Go.Proofs.YtpnbbbhbbnemlaaGreatDoor
open Go.RowKit
open SemP
set_option linter.unusedVariables false
set_option linter.unusedSimpArgs false
set_option maxRecDepth 100000

/-- A comparison. -/
structure CV where
  op : Int
  a : Int
  b : Int
  c : Int
  s : ByteArray
def CV.ver (x : CV) : Ver := ⟨x.a, x.b, x.c, bs x.s⟩
abbrev compV (op a b c : Int) (s : ByteArray) : Value := .agg #[.int .i64 op, .int .i64 a, .int .i64 b, .int .i64 c, .string s]
abbrev compC (op a b c : Int) (s : ByteArray) : Obj := .cells #[.int .i64 op, .int .i64 a, .int .i64 b, .int .i64 c, .string s] 73
theorem cells5 {w : World} {g : Nat} {x y z u v : Value} {T : TypeId} (h : w.heap[g]? = some (.cells #[x, y, z, u, v] T (0, 0))) : w.cell? ⟨g, 0, none⟩ = some x ∧ w.cell? ⟨g, 1, none⟩ = some y ∧ w.cell? ⟨g, 2, none⟩ = some z ∧ w.cell? ⟨g, 3, none⟩ = some u ∧ w.cell? ⟨g, 4, none⟩ = some v :=
  ⟨by simp [World.cell?, h], by simp [World.cell?, h], by simp [World.cell?, h], by simp [World.cell?, h], by simp [World.cell?, h]⟩
/-- Is it a comparison of a range? -/
def CV.right (x : CV) : Bool := if x.op = 0 then verEq x.a x.b x.c x.s 0 0 0 ⟨#[]⟩ else decide (0 < x.op) && decide (x.op ≤ 7) && x.ver.right
def rightL (l : List CV) : Bool := decide (1 ≤ l.length) && decide (l.length ≤ 8) && l.all CV.right
def rightR (r : List (List CV)) : Bool := decide (1 ≤ r.length) && decide (r.length ≤ 8) && r.all rightL
theorem eqComp0 (w : World) (a b c : Int) (s : ByteArray) : (Op.equalIn 10000 73 (.agg #[.int .i64 0, .int .i64 a, .int .i64 b, .int .i64 c, .string s]) (.agg #[.int .i64 0, .int .i64 0, .int .i64 0, .int .i64 0, .string ⟨#[]⟩])).run Tryz.prog w = .ok (verEq a b c s 0 0 0 ⟨#[]⟩) w := by
  unfold verEq
  rw [show (10000 : Nat) = 9998 + 1 + 1 from rfl]
  go_simp
  by_cases h1 : a = 0
  · by_cases h2 : b = 0
    · by_cases h3 : c = 0
      · by_cases h4 : s = ⟨#[]⟩
        · subst h1 h2 h3 h4; simp
        · have h5 : s.toList ≠ [] := fun e => h4 (toL_inj (e.trans (by simp [ByteArray.toList_eq])))
          simp [h1, h2, h3, h4, h5]
      · simp [h1, h2, h3]
    · simp [h1, h2]
  · simp [h1]
set_option maxHeartbeats 4000000 in
theorem cright_any (op a b c : Int) (s : ByteArray) (w : World) (hs : s.size < 4294967281) (hm : LenAt w) (h1 : 1 < w.heap.size) :
    Calls Tryz.prog 58 #[compV op a b c s] w fun e w' => e = .returned (.bool (CV.right ⟨op, a, b, c, s⟩)) ∧ Below w.heap.size w w' := by
  obtain ⟨W0, hW0⟩ : ∃ W0, w.alloc (compC op a b c s) = W0 := ⟨_, rfl⟩
  have hb0 : Below w.heap.size w W0 := by rw [← hW0]; exact (Below.refl _ w).alloc (Nat.le_refl _) _
  have hX : W0.heap[w.heap.size]? = some (compC op a b c s) := by rw [← hW0]; exact World.alloc_heap_new _ _
  have HM0 := Lib.hid (hm.below h1 hb0)
  have HB0 := Lib.hid hb0
  have HW0 := Lib.hid hW0
  have HR := Lib.hid (Right_any a b c s W0 hs HM0.out.1 HM0.out.2)
  obtain ⟨x0, x1, x2, x3, x4⟩ := cells5 hX
  rw [← hW0] at x0 x1 x2 x3 x4
  simp only [compC] at x0 x1 x2 x3 x4
  have HEQ := Lib.hid (fun W => eqComp0 W a b c s)
  clear hb0 hm hX hW0
  by_cases h0 : op = 0
  · subst h0
    have HV : Hid (CV.right ⟨0, a, b, c, s⟩ = verEq a b c s 0 0 0 ⟨#[]⟩) := Lib.hid (by unfold CV.right; rw [if_pos rfl])
    have heq : ∀ W : World, (Op.equalIn 10000 73 (.agg #[.int .i64 0, .int .i64 a, .int .i64 b, .int .i64 c, .string s]) (.agg #[.int .i64 0, .int .i64 0, .int .i64 0, .int .i64 0, .string ⟨#[]⟩])).run Tryz.prog W = .ok (verEq a b c s 0 0 0 ⟨#[]⟩) W := HEQ.out
    generalize verEq a b c s 0 0 0 ⟨#[]⟩ = q at *
    go_enter Tryz.func58, Tryz.ntmps58
    go_wp2
    refine bodyPost_ret (results_tmp rfl _ _ _) rfl ⟨by rw [HV.out]; rfl, ?_⟩
    have h := HB0.out
    rw [← HW0.out] at h
    exact h
  · have d0 : (op == 0) = false := by rw [beq_eq_false_iff_ne]; exact h0
    have HV : Hid (CV.right ⟨op, a, b, c, s⟩ = (decide (0 < op) && decide (op ≤ 7) && Ver.right ⟨a, b, c, bs s⟩)) := Lib.hid (by unfold CV.right; rw [if_neg h0]; rfl)
    have HBB : Hid (Below w.heap.size w (w.alloc (compC op a b c s))) := Lib.hid (by rw [HW0.out]; exact HB0.out)
    clear h0
    cases d1 : decide (0 < op) with
    | false =>
      go_enter Tryz.func58, Tryz.ntmps58
      go_wp2
      refine bodyPost_ret (results_tmp rfl _ _ _) rfl ⟨by rw [HV.out, d1]; rfl, HBB.out⟩
    | true =>
      cases d2 : decide (op ≤ 7) with
      | false =>
        go_enter Tryz.func58, Tryz.ntmps58
        go_wp2
        refine bodyPost_ret (results_tmp rfl _ _ _) rfl ⟨by rw [HV.out, d1, d2]; rfl, HBB.out⟩
      | true =>
        go_enter Tryz.func58, Tryz.ntmps58
        go_wp2_with fail
        try rw [show w.alloc (.cells #[.int .i64 op, .int .i64 a, .int .i64 b, .int .i64 c, .string s] 73) = W0 from HW0.out]
        refine HR.out.mono ?_
        rintro e W1 ⟨rfl, hb⟩
        have HB1 : Hid (Below w.heap.size w W1) := Lib.hid (HB0.out.trans (hb.mono HB0.out.size))
        clear hb
        go_wp2
        refine bodyPost_ret (results_tmp rfl _ _ _) rfl ⟨by rw [HV.out, d1, d2]; rfl, HB1.out⟩
instance : Inhabited CV := ⟨⟨0, 0, 0, 0, ⟨#[]⟩⟩⟩
abbrev cvAt (l : List CV) (j : Nat) : CV := l.getD j default
/-- A slice of comparisons reads, in w, as l; it lies below block B. -/
def RdC (w : World) (B : Nat) (A : Option Addr) (n : Nat) (l : List CV) : Prop := l.length = n ∧ ∀ j, j < n → ∃ b off, A = some ⟨b, off, none⟩ ∧ b < B ∧
  w.cell? ⟨b, off + j * 5, none⟩ = some (.int .i64 (cvAt l j).op) ∧ w.cell? ⟨b, off + j * 5 + 1, none⟩ = some (.int .i64 (cvAt l j).a) ∧ w.cell? ⟨b, off + j * 5 + 2, none⟩ = some (.int .i64 (cvAt l j).b) ∧ w.cell? ⟨b, off + j * 5 + 3, none⟩ = some (.int .i64 (cvAt l j).c) ∧ w.cell? ⟨b, off + j * 5 + 4, none⟩ = some (.string (cvAt l j).s)
theorem RdC.below {w w' : World} {B n : Nat} {A : Option Addr} {l : List CV} (h : RdC w B A n l) (hb : Below B w w') : RdC w' B A n l := ⟨h.1, fun j hj => by
  obtain ⟨b, off, e, hlt, h0, h1, h2, h3, h4⟩ := h.2 j hj
  exact ⟨b, off, e, hlt, (hb.cell hlt).trans h0, (hb.cell hlt).trans h1, (hb.cell hlt).trans h2, (hb.cell hlt).trans h3, (hb.cell hlt).trans h4⟩⟩
def Short (l : List CV) : Prop := ∀ x ∈ l, x.s.size < 4294967281
theorem cvAt_mem {l : List CV} {j : Nat} (h : j < l.length) : cvAt l j ∈ l := by simp [cvAt, List.getD, h]
theorem all_at {l : List CV} {p : CV → Bool} (h : ∀ j, j < l.length → p (cvAt l j) = true) : l.all p = true := by
  rw [List.all_eq_true]
  intro x hx
  obtain ⟨j, hj, rfl⟩ := List.getElem_of_mem hx
  have := h j hj
  simpa [cvAt, List.getD, hj] using this
theorem all_not {l : List CV} {p : CV → Bool} {j : Nat} (hj : j < l.length) (h : p (cvAt l j) = false) : l.all p = false := by
  cases ha : l.all p with
  | false => rfl
  | true => have := List.all_eq_true.1 ha _ (cvAt_mem hj); rw [h] at this; cases this
set_option maxHeartbeats 4000000 in
theorem rightList_any (A : Option Addr) (n cp : Nat) (l : List CV) (w : World) (B : Nat) (hr : RdC w B A n l) (hB : B ≤ w.heap.size) (hs : Short l) (hn : n ≤ 1000000) (hm : LenAt w) (h1 : 1 < w.heap.size) :
    Calls Tryz.prog 30 #[.slice A n cp] w fun e w' => e = .returned (.bool (rightL l)) ∧ Below w.heap.size w w' := by
  have HR := Lib.hid hr
  have HS := Lib.hid hs
  have HLE := Lib.hid hr.1
  have HM := Lib.hid (And.intro hm h1)
  have HBB := Lib.hid hB
  have HV := Lib.hid (show rightL l = (decide (1 ≤ l.length) && decide (l.length ≤ 8) && l.all CV.right) from rfl)
  clear hr hs hm h1 hB
  by_cases hn1 : n < 1
  · have d1 : decide ((n : Int) < 1) = true := decide_eq_true (by omega)
    have HF : Hid (rightL l = false) := Lib.hid (by rw [HV.out, HLE.out, decide_eq_false (show ¬ 1 ≤ n by omega)]; rfl)
    go_enter Tryz.func30, Tryz.ntmps30
    go_wp2
    refine bodyPost_ret (results_tmp rfl _ _ _) rfl ⟨by rw [HF.out]; rfl, Below.refl _ _⟩
  · have d1 : decide ((n : Int) < 1) = false := decide_eq_false (by omega)
    by_cases hn8 : 8 < n
    · have d2 : decide (8 < (n : Int)) = true := decide_eq_true (by omega)
      have HF : Hid (rightL l = false) := Lib.hid (by rw [HV.out, HLE.out, decide_eq_false (show ¬ n ≤ 8 by omega), Bool.and_false]; rfl)
      go_enter Tryz.func30, Tryz.ntmps30
      go_wp2
      refine bodyPost_ret (results_tmp rfl _ _ _) rfl ⟨by rw [HF.out]; rfl, Below.refl _ _⟩
    · have d2 : decide (8 < (n : Int)) = false := decide_eq_false (by omega)
      have HV2 : Hid (rightL l = l.all CV.right) := Lib.hid (by rw [HV.out, HLE.out, decide_eq_true (show 1 ≤ n by omega), decide_eq_true (show n ≤ 8 by omega)]; rfl)
      go_enter Tryz.func30, Tryz.ntmps30
      go_wp2
      go_loopw [4, 15] (fun v4 v15 wr => ∃ (i : Nat), i ≤ n ∧ v15 = .int .i64 (i : Int) ∧ Hid (∀ j, j < i → (cvAt l j).right = true) ∧ Hid (Below w.heap.size w wr)) (fun _ v _ => n - (intOf v).toNat)
      case atStart => exact ⟨0, Nat.zero_le _, rfl, Lib.hid (fun j hj => absurd hj (by omega)), Lib.hid (Below.refl _ _)⟩
      case round =>
        obtain ⟨i, hi, rfl, HD, HB⟩ := hrel
        by_cases him : i < n
        · have hd : decide ((i : Int) < (n : Int)) = true := decide_eq_true (by omega)
          have hadd : IntKind.i64.wrap ((i : Int) + 1) = ((i + 1 : Nat) : Int) := by rw [IntWalk.i64_in _ (by omega)]; omega
          obtain ⟨b, off, rfl, hlt, q0, q1, q2, q3, q4⟩ := (HR.out.below (HB.out.mono HBB.out)).2 i him
          have HMr := Lib.hid (HM.out.1.below HM.out.2 HB.out)
          have HIL : Hid (i < l.length) := Lib.hid (by rw [HLE.out]; exact him)
          have HSZ : Hid ((cvAt l i).s.size < 4294967281) := Lib.hid (HS.out _ (cvAt_mem HIL.out))
          obtain ⟨x, hx⟩ : ∃ x, cvAt l i = x := ⟨_, rfl⟩
          have HX := Lib.hid hx
          rw [hx] at q0 q1 q2 q3 q4 HSZ
          have hba : Below wr.heap.size wr (wr.alloc (compC x.op x.a x.b x.c x.s)) := (Below.refl _ wr).alloc (Nat.le_refl _) _
          have HMa := Lib.hid (HMr.out.1.below HMr.out.2 hba)
          have HBa : Hid (Below w.heap.size w (wr.alloc (compC x.op x.a x.b x.c x.s))) := Lib.hid (HB.out.trans (hba.mono HB.out.size))
          have HC := Lib.hid (cright_any x.op x.a x.b x.c x.s (wr.alloc (compC x.op x.a x.b x.c x.s)) HSZ.out HMa.out.1 HMa.out.2)
          clear hx hba
          go_wp2_with fail
          refine HC.out.mono ?_
          rintro e W2 ⟨rfl, hb⟩
          have HB2 : Hid (Below w.heap.size w W2) := Lib.hid (HBa.out.trans (hb.mono HBa.out.size))
          clear hb HC
          cases hcr : CV.right ⟨x.op, x.a, x.b, x.c, x.s⟩ with
          | true =>
            have HD2 : Hid (∀ j, j < i + 1 → (cvAt l j).right = true) := Lib.hid (fun j hj => by
              rcases Nat.lt_succ_iff_lt_or_eq.1 hj with h | h
              · exact HD.out j h
              · subst h; rw [HX.out]; exact hcr)
            clear hcr q0 q1 q2 q3 q4
            go_wp2
            go_roundw
            case rel => exact ⟨i + 1, by omega, rfl, HD2, HB2⟩
            case measure => simp [intOf]; omega
          | false =>
            have HF : Hid (rightL l = false) := Lib.hid (by rw [HV2.out]; exact all_not HIL.out (by rw [HX.out]; exact hcr))
            clear hcr q0 q1 q2 q3 q4
            go_wp2
            refine bodyPost_ret (results_tmp rfl _ _ _) rfl ⟨by rw [HF.out]; rfl, HB2.out⟩
        · have hd : decide ((i : Int) < (n : Int)) = false := decide_eq_false (by omega)
          have HT : Hid (rightL l = true) := Lib.hid (by rw [HV2.out]; exact all_at (fun j hj => HD.out j (by rw [HLE.out] at hj; omega)))
          go_wp2
          refine bodyPost_ret (results_tmp rfl _ _ _) rfl ⟨by rw [HT.out]; rfl, HB.out⟩
end Go.Proofs.YtpnbbbhbbnemlaaGreatDoor
