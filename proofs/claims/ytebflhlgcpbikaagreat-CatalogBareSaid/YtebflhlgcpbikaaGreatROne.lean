/-
  CONTRACT of the document's own package of layer 2: one (printed by genrone.py).
-/
import Derived.Test.YtebflhlgcpbikaaGreatRUp
import Derived.Test.YtebflhlgcpbikaaGreatRTil
namespace Go.Proofs.YtebflhlgcpbikaaGreat
open Go.RowKit
open SemP
set_option linter.unusedVariables false
set_option linter.unusedSimpArgs false
set_option maxRecDepth 100000
theorem cv_ver {x : CV} (h : x.right = true) : x.ver.right = true ∧ 0 ≤ x.op ∧ x.op ≤ 7 := by
  unfold CV.right at h
  by_cases h0 : x.op = 0
  · rw [if_pos h0] at h
    have h := of_decide_eq_true h
    obtain ⟨h1, h2, h3, h4⟩ := h
    refine ⟨?_, by omega, by omega⟩
    unfold CV.ver
    rw [h1, h2, h3, h4]; rfl
  · rw [if_neg h0] at h
    simp only [Bool.and_eq_true, decide_eq_true_eq] at h
    exact ⟨h.2, by omega, by omega⟩
theorem dec_iff {p q : Prop} [Decidable p] [Decidable q] (h : p ↔ q) : decide p = decide q := decide_eq_decide.2 h
set_option maxHeartbeats 8000000 in
theorem RefOne_any (op a b c : Int) (s : ByteArray) (x y z : Int) (t : ByteArray) (w : World) (hx : CV.right ⟨op, a, b, c, s⟩ = true) (hv : Ver.right ⟨x, y, z, bs t⟩ = true) (h1 : s.size ≤ 1000000) (h2 : t.size ≤ 1000000) :
    Calls Tryz.prog 89 #[compV op a b c s, verV x y z t] w fun e w' => e = .returned (.bool (hasC op ⟨a, b, c, bs s⟩ ⟨x, y, z, bs t⟩)) ∧ Below w.heap.size w w' := by
  obtain ⟨hcr, hop⟩ := cv_ver hx
  have hcr : Ver.right ⟨a, b, c, bs s⟩ = true := hcr
  obtain ⟨W0, hW0⟩ : ∃ W0, (w.alloc (.cells #[.int .i64 op, .int .i64 a, .int .i64 b, .int .i64 c, .string s] 117)).alloc (.cells #[.int .i64 x, .int .i64 y, .int .i64 z, .string t] 76) = W0 := ⟨_, rfl⟩
  have hX : W0.heap[w.heap.size]? = some (.cells #[.int .i64 op, .int .i64 a, .int .i64 b, .int .i64 c, .string s] 117) := by
    rw [← hW0, Below.heap_alloc _ _ _ (by simp)]; exact World.alloc_heap_new _ _
  have hY : W0.heap[w.heap.size + 1]? = some (.cells #[.int .i64 x, .int .i64 y, .int .i64 z, .string t] 76) := by
    rw [← hW0]
    have h := World.alloc_heap_new (w.alloc (.cells #[.int .i64 op, .int .i64 a, .int .i64 b, .int .i64 c, .string s] 117)) (.cells #[.int .i64 x, .int .i64 y, .int .i64 z, .string t] 76)
    rw [World.size_alloc] at h; exact h
  have hz : W0.heap.size = w.heap.size + 2 := by rw [← hW0]; simp
  have hb0 : Below w.heap.size w W0 := by rw [← hW0]; exact ((Below.refl _ w).alloc (Nat.le_refl _) _).alloc (by simp) _
  obtain ⟨x0, x1, x2, x3, x4⟩ := cells5 hX
  obtain ⟨y0, y1, y2, y3⟩ := cells4 hY
  rw [← hW0] at x0 x1 x2 x3 x4 y0 y1 y2 y3
  have HX := Lib.hid hX
  have HY := Lib.hid hY
  have HLX : Hid (w.heap.size < W0.heap.size) := Lib.hid (by omega)
  have HLY : Hid (w.heap.size + 1 < W0.heap.size) := Lib.hid (by omega)
  have HB0 := Lib.hid hb0
  have HW0 := Lib.hid hW0
  have HV := Lib.hid hv
  have HR := Lib.hid hcr
  have HS := Lib.hid (And.intro h1 h2)
  have HC := Lib.hid (RefCompare_any x y z t a b c s W0 (by omega) (by omega))
  rw [refV_cmp hv hcr] at HC
  obtain ⟨n, hn⟩ : ∃ n, cmpV ⟨x, y, z, bs t⟩ ⟨a, b, c, bs s⟩ = n := ⟨_, rfl⟩
  rw [hn] at HC
  have HN := Lib.hid hn
  clear hn hX hY hz hb0 hW0 hx hv hcr h1 h2
  go_enter Tryz.func89, Tryz.ntmps89
  go_wp2_with fail
  try rw [show (w.alloc (.cells #[.int .i64 op, .int .i64 a, .int .i64 b, .int .i64 c, .string s] 117)).alloc (.cells #[.int .i64 x, .int .i64 y, .int .i64 z, .string t] 76) = W0 from HW0.out]
  refine HC.out.mono ?_
  rintro e W1 ⟨rfl, hb⟩
  have HX1 := Lib.hid ((hb.block _ HLX.out).trans HX.out)
  have HY1 := Lib.hid ((hb.block _ HLY.out).trans HY.out)
  have HB1 : Hid (Below w.heap.size w W1) := Lib.hid (HB0.out.trans (hb.mono HB0.out.size))
  have HL1 : Hid (w.heap.size + 1 < W1.heap.size) := Lib.hid (Nat.lt_of_lt_of_le HLY.out hb.size)
  clear hb HC x0 x1 x2 x3 x4 y0 y1 y2 y3 HX HY HLX HLY HB0 HW0
  obtain ⟨x0, x1, x2, x3, x4⟩ := cells5 HX1.out
  have hcases : op = 0 ∨ op = 1 ∨ op = 2 ∨ op = 3 ∨ op = 4 ∨ op = 5 ∨ op = 6 ∨ op = 7 := by
    have h1 : 0 ≤ op := hop.1
    have h2 : op ≤ 7 := hop.2
    omega
  clear hop
  rcases hcases with rfl | rfl | rfl | rfl | rfl | rfl | rfl | rfl
  · go_wp2
    refine bodyPost_ret (results_tmp rfl _ _ _) rfl ⟨?_, HB1.out⟩
    unfold hasC
    rw [HN.out]
    exact congrArg (fun q => Ending.returned (Value.bool q)) (rfl)
  · go_wp2
    refine bodyPost_ret (results_tmp rfl _ _ _) rfl ⟨?_, HB1.out⟩
    unfold hasC
    rw [HN.out]
    exact congrArg (fun q => Ending.returned (Value.bool q)) (dec_iff Iff.rfl)
  · go_wp2
    refine bodyPost_ret (results_tmp rfl _ _ _) rfl ⟨?_, HB1.out⟩
    unfold hasC
    rw [HN.out]
    exact congrArg (fun q => Ending.returned (Value.bool q)) (rfl)
  · go_wp2
    refine bodyPost_ret (results_tmp rfl _ _ _) rfl ⟨?_, HB1.out⟩
    unfold hasC
    rw [HN.out]
    exact congrArg (fun q => Ending.returned (Value.bool q)) (dec_iff (by omega))
  · go_wp2
    refine bodyPost_ret (results_tmp rfl _ _ _) rfl ⟨?_, HB1.out⟩
    unfold hasC
    rw [HN.out]
    exact congrArg (fun q => Ending.returned (Value.bool q)) (rfl)
  · go_wp2
    refine bodyPost_ret (results_tmp rfl _ _ _) rfl ⟨?_, HB1.out⟩
    unfold hasC
    rw [HN.out]
    exact congrArg (fun q => Ending.returned (Value.bool q)) (dec_iff (by omega))
  · obtain ⟨X, Y, Z, hup⟩ : ∃ X Y Z : Int, upV 6 a b c = (X, Y, Z) := ⟨_, _, _, rfl⟩
    have hnn := right_nums HR.out
    have HU := Lib.hid (Upper_any 6 a b c s W1 (by omega) (by omega) (by omega))
    have HE := Lib.hid (up_endR (op := 6) HR.out (by omega))
    rw [hup] at HU HE
    simp only at HU HE
    obtain ⟨r, hr⟩ : ∃ r, Ver.right ⟨X, Y, Z, []⟩ = r := ⟨_, rfl⟩
    rw [hr] at HU HE
    have HRR := Lib.hid hr
    clear hup hnn hr
    go_wp2_with fail
    refine HU.out.mono ?_
    rintro e W2 ⟨rfl, hb⟩
    have HB2 : Hid (∀ o, Below w.heap.size w (W2.alloc o)) := Lib.hid (fun o => (HB1.out.trans (hb.mono HB1.out.size)).alloc (HB1.out.trans (hb.mono HB1.out.size)).size o)
    have HL2 : Hid (w.heap.size + 1 < W2.heap.size) := Lib.hid (Nat.lt_of_lt_of_le HL1.out hb.size)
    obtain ⟨W3, hW3⟩ : ∃ W3, W2.alloc (.cells #[.int .i64 X, .int .i64 Y, .int .i64 Z, .string ⟨#[]⟩] 76) = W3 := ⟨_, rfl⟩
    have HY3 : Hid (W3.heap[w.heap.size + 1]? = some (.cells #[.int .i64 x, .int .i64 y, .int .i64 z, .string t] 76)) := Lib.hid (by rw [← hW3, Below.heap_alloc _ _ _ HL2.out]; exact (hb.block _ HL1.out).trans HY1.out)
    have HU3 : Hid (W3.heap[W2.heap.size]? = some (.cells #[.int .i64 X, .int .i64 Y, .int .i64 Z, .string ⟨#[]⟩] 76)) := Lib.hid (by rw [← hW3]; exact World.alloc_heap_new _ _)
    have HB3 : Hid (Below w.heap.size w W3) := Lib.hid (by rw [← hW3]; exact HB2.out _)
    have HW3 := Lib.hid hW3
    clear hb HU x0 x1 x2 x3 x4 hW3
    go_upto_region 16 with fail
    rw [show W2.alloc (.cells #[.int .i64 X, .int .i64 Y, .int .i64 Z, .string ⟨#[]⟩] 76) = W3 from HW3.out]
    obtain ⟨y0, y1, y2, y3⟩ := cells4 HY3.out
    obtain ⟨u0, u1, u2, u3⟩ := cells4 HU3.out
    by_cases hn0 : -1 < n
    · have d0 : decide (-1 < n) = true := decide_eq_true hn0
      have HN0 : Hid (decide (0 ≤ n) = true) := Lib.hid (decide_eq_true (by omega))
      clear hn0
      cases r with
      | false =>
        go_wp2
        refine bodyPost_ret (results_tmp rfl _ _ _) rfl ⟨?_, HB3.out⟩
        rw [has6, HE.out, HN.out, HN0.out]; rfl
      | true =>
        have HC := Lib.hid (RefCompare_any x y z t X Y Z ⟨#[]⟩ W3 (by have := HS.out.2; omega) (by decide))
        rw [show refV ⟨x, y, z, bs t⟩ ⟨X, Y, Z, bs ⟨#[]⟩⟩ = cmpV ⟨x, y, z, bs t⟩ ⟨X, Y, Z, []⟩ from refV_cmp HV.out HRR.out] at HC
        go_wp2_with fail
        refine HC.out.mono ?_
        rintro e W4 ⟨rfl, hb⟩
        have HB4 : Hid (Below w.heap.size w W4) := Lib.hid (HB3.out.trans (hb.mono HB3.out.size))
        clear hb HC y0 y1 y2 y3 u0 u1 u2 u3
        go_wp2
        refine bodyPost_ret (results_tmp rfl _ _ _) rfl ⟨?_, HB4.out⟩
        rw [has6, HE.out, HN.out, HN0.out]; rfl
    · have d0 : decide (-1 < n) = false := decide_eq_false hn0
      have HN0 : Hid (decide (0 ≤ n) = false) := Lib.hid (decide_eq_false (by omega))
      clear hn0
      go_wp2
      refine bodyPost_ret (results_tmp rfl _ _ _) rfl ⟨?_, HB3.out⟩
      rw [has6, HN.out, HN0.out]; rfl
  · obtain ⟨X, Y, Z, hup⟩ : ∃ X Y Z : Int, upV 7 a b c = (X, Y, Z) := ⟨_, _, _, rfl⟩
    have hnn := right_nums HR.out
    have HU := Lib.hid (Upper_any 7 a b c s W1 (by omega) (by omega) (by omega))
    have HE := Lib.hid (up_endR (op := 7) HR.out (by omega))
    rw [hup] at HU HE
    simp only at HU HE
    obtain ⟨r, hr⟩ : ∃ r, Ver.right ⟨X, Y, Z, []⟩ = r := ⟨_, rfl⟩
    rw [hr] at HU HE
    have HRR := Lib.hid hr
    clear hup hnn hr
    go_wp2_with fail
    refine HU.out.mono ?_
    rintro e W2 ⟨rfl, hb⟩
    have HB2 : Hid (∀ o, Below w.heap.size w (W2.alloc o)) := Lib.hid (fun o => (HB1.out.trans (hb.mono HB1.out.size)).alloc (HB1.out.trans (hb.mono HB1.out.size)).size o)
    have HL2 : Hid (w.heap.size + 1 < W2.heap.size) := Lib.hid (Nat.lt_of_lt_of_le HL1.out hb.size)
    obtain ⟨W3, hW3⟩ : ∃ W3, W2.alloc (.cells #[.int .i64 X, .int .i64 Y, .int .i64 Z, .string ⟨#[]⟩] 76) = W3 := ⟨_, rfl⟩
    have HY3 : Hid (W3.heap[w.heap.size + 1]? = some (.cells #[.int .i64 x, .int .i64 y, .int .i64 z, .string t] 76)) := Lib.hid (by rw [← hW3, Below.heap_alloc _ _ _ HL2.out]; exact (hb.block _ HL1.out).trans HY1.out)
    have HU3 : Hid (W3.heap[W2.heap.size]? = some (.cells #[.int .i64 X, .int .i64 Y, .int .i64 Z, .string ⟨#[]⟩] 76)) := Lib.hid (by rw [← hW3]; exact World.alloc_heap_new _ _)
    have HB3 : Hid (Below w.heap.size w W3) := Lib.hid (by rw [← hW3]; exact HB2.out _)
    have HW3 := Lib.hid hW3
    clear hb HU x0 x1 x2 x3 x4 hW3
    go_upto_region 16 with fail
    rw [show W2.alloc (.cells #[.int .i64 X, .int .i64 Y, .int .i64 Z, .string ⟨#[]⟩] 76) = W3 from HW3.out]
    obtain ⟨y0, y1, y2, y3⟩ := cells4 HY3.out
    obtain ⟨u0, u1, u2, u3⟩ := cells4 HU3.out
    by_cases hn0 : -1 < n
    · have d0 : decide (-1 < n) = true := decide_eq_true hn0
      have HN0 : Hid (decide (0 ≤ n) = true) := Lib.hid (decide_eq_true (by omega))
      clear hn0
      cases r with
      | false =>
        go_wp2
        refine bodyPost_ret (results_tmp rfl _ _ _) rfl ⟨?_, HB3.out⟩
        rw [has7, HE.out, HN.out, HN0.out]; rfl
      | true =>
        have HC := Lib.hid (RefCompare_any x y z t X Y Z ⟨#[]⟩ W3 (by have := HS.out.2; omega) (by decide))
        rw [show refV ⟨x, y, z, bs t⟩ ⟨X, Y, Z, bs ⟨#[]⟩⟩ = cmpV ⟨x, y, z, bs t⟩ ⟨X, Y, Z, []⟩ from refV_cmp HV.out HRR.out] at HC
        go_wp2_with fail
        refine HC.out.mono ?_
        rintro e W4 ⟨rfl, hb⟩
        have HB4 : Hid (Below w.heap.size w W4) := Lib.hid (HB3.out.trans (hb.mono HB3.out.size))
        clear hb HC y0 y1 y2 y3 u0 u1 u2 u3
        go_wp2
        refine bodyPost_ret (results_tmp rfl _ _ _) rfl ⟨?_, HB4.out⟩
        rw [has7, HE.out, HN.out, HN0.out]; rfl
    · have d0 : decide (-1 < n) = false := decide_eq_false hn0
      have HN0 : Hid (decide (0 ≤ n) = false) := Lib.hid (decide_eq_false (by omega))
      clear hn0
      go_wp2
      refine bodyPost_ret (results_tmp rfl _ _ _) rfl ⟨?_, HB3.out⟩
      rw [has7, HN.out, HN0.out]; rfl
end Go.Proofs.YtebflhlgcpbikaaGreat
