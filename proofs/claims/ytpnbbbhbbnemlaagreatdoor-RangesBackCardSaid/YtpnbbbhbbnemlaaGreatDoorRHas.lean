/-
  RANGES: contract: has (printed by genrhas.py).
-/
import Derived.Test.YtpnbbbhbbnemlaaGreatDoorREnd
namespace Go.Proofs.YtpnbbbhbbnemlaaGreatDoor
open Go.RowKit
open SemP
set_option linter.unusedVariables false
set_option linter.unusedSimpArgs false
set_option maxRecDepth 100000

/-- Has a comparison a version? -/
def hasC (op : Int) (c v : Ver) : Bool :=
  if op = 1 then decide (cmpV v c = 0) else if op = 2 then decide (cmpV v c < 0) else if op = 3 then decide (cmpV v c ≤ 0) else if op = 4 then decide (0 < cmpV v c) else if op = 5 then decide (0 ≤ cmpV v c)
  else if op = 6 ∨ op = 7 then decide (0 ≤ cmpV v c) && (match endR op c with
    | none => true
    | some e => decide (cmpV v e < 0)) else true
theorem end_pre {op : Int} {c e : Ver} (h : endR op c = some e) : e.pre = [] := by
  unfold endR at h
  split at h
  · injection h with h; rw [← h]; exact bump_len _ _
  · cases h
set_option maxHeartbeats 8000000 in
theorem has_any (op a b c : Int) (s : ByteArray) (x y z : Int) (t : ByteArray) (w : World) (hs : s.size < 4294967281) (ht : t.size < 4294967281) (hm : LenAt w) (h1 : 1 < w.heap.size) :
    Calls Tryz.prog 85 #[compV op a b c s, verV x y z t] w fun e w' => e = .returned (.bool (hasC op ⟨a, b, c, bs s⟩ ⟨x, y, z, bs t⟩)) ∧ Below w.heap.size w w' := by
  obtain ⟨W0, hW0⟩ : ∃ W0, (w.alloc (compC op a b c s)).alloc (verC x y z t) = W0 := ⟨_, rfl⟩
  have hz0 : W0.heap.size = w.heap.size + 2 := by rw [← hW0]; simp
  have hb0 : Below w.heap.size w W0 := by rw [← hW0]; exact ((Below.refl _ w).alloc (Nat.le_refl _) _).alloc (by simp) _
  have HX0 : Hid (W0.heap[w.heap.size]? = some (compC op a b c s)) := Lib.hid (by
    rw [← hW0, Below.heap_alloc _ _ _ (by simp)]; exact World.alloc_heap_new _ _)
  have HX1 : Hid (W0.heap[w.heap.size + 1]? = some (verC x y z t)) := Lib.hid (by
    rw [← hW0]
    have := World.alloc_heap_new (w.alloc (compC op a b c s)) (verC x y z t)
    rw [World.size_alloc] at this; exact this)
  have HM0 := Lib.hid (hm.below h1 hb0)
  have HB0 := Lib.hid hb0
  have HW0 := Lib.hid hW0
  have HT := Lib.hid ht
  have HL0 : Hid (w.heap.size < W0.heap.size) := Lib.hid (by omega)
  have HL1 : Hid (w.heap.size + 1 < W0.heap.size) := Lib.hid (by omega)
  have HC := Lib.hid (Compare_any x y z t a b c s W0 ht hs HM0.out.1 HM0.out.2)
  obtain ⟨x0, x1, x2, x3, x4⟩ := cells5 HX0.out
  obtain ⟨y0, y1, y2, y3⟩ := cells4 HX1.out
  rw [← hW0] at x0 x1 x2 x3 x4 y0 y1 y2 y3
  simp only [compC, verC] at x0 x1 x2 x3 x4 y0 y1 y2 y3
  obtain ⟨q, hq⟩ : ∃ q, cmpV ⟨x, y, z, bs t⟩ ⟨a, b, c, bs s⟩ = q := ⟨_, rfl⟩
  have HQ := Lib.hid hq
  clear hz0 hb0 hm hs ht hW0 hq
  by_cases h1_ : op = 1
  · subst h1_
    have HV : Hid (hasC 1 ⟨a, b, c, bs s⟩ ⟨x, y, z, bs t⟩ = (q == 0)) := Lib.hid (by rw [← HQ.out]; unfold hasC; simp; rfl)
    go_enter Tryz.func85, Tryz.ntmps85
    go_wp2_with fail
    try rw [show (w.alloc (.cells #[.int .i64 1, .int .i64 a, .int .i64 b, .int .i64 c, .string s] 73)).alloc (.cells #[.int .i64 x, .int .i64 y, .int .i64 z, .string t] 69) = W0 from HW0.out]
    refine HC.out.mono ?_
    rintro e W1 ⟨rfl, hb⟩
    rw [HQ.out]
    have HB1 : Hid (Below w.heap.size w W1) := Lib.hid (HB0.out.trans (hb.mono HB0.out.size))
    have HM1 := Lib.hid (HM0.out.1.below HM0.out.2 hb)
    have HY0 := Lib.hid ((hb.block _ HL0.out).trans HX0.out)
    have HY1 := Lib.hid ((hb.block _ HL1.out).trans HX1.out)
    have HL2 : Hid (w.heap.size + 1 < W1.heap.size) := Lib.hid (Nat.lt_of_lt_of_le HL1.out hb.size)
    clear hb HC x0 x1 x2 x3 x4 y0 y1 y2 y3
    obtain ⟨x0, x1, x2, x3, x4⟩ := cells5 HY0.out
    obtain ⟨y0, y1, y2, y3⟩ := cells4 HY1.out
    go_wp2
    refine bodyPost_ret (results_tmp rfl _ _ _) rfl ⟨by rw [HV.out]; rfl, HB1.out⟩
  · have d1 : (op == 1) = false := by rw [beq_eq_false_iff_ne]; exact h1_
    by_cases h2 : op = 2
    · subst h2
      have HV : Hid (hasC 2 ⟨a, b, c, bs s⟩ ⟨x, y, z, bs t⟩ = decide (q < 0)) := Lib.hid (by rw [← HQ.out]; rfl)
      go_enter Tryz.func85, Tryz.ntmps85
      go_wp2_with fail
      try rw [show (w.alloc (.cells #[.int .i64 2, .int .i64 a, .int .i64 b, .int .i64 c, .string s] 73)).alloc (.cells #[.int .i64 x, .int .i64 y, .int .i64 z, .string t] 69) = W0 from HW0.out]
      refine HC.out.mono ?_
      rintro e W1 ⟨rfl, hb⟩
      rw [HQ.out]
      have HB1 : Hid (Below w.heap.size w W1) := Lib.hid (HB0.out.trans (hb.mono HB0.out.size))
      have HM1 := Lib.hid (HM0.out.1.below HM0.out.2 hb)
      have HY0 := Lib.hid ((hb.block _ HL0.out).trans HX0.out)
      have HY1 := Lib.hid ((hb.block _ HL1.out).trans HX1.out)
      have HL2 : Hid (w.heap.size + 1 < W1.heap.size) := Lib.hid (Nat.lt_of_lt_of_le HL1.out hb.size)
      clear hb HC x0 x1 x2 x3 x4 y0 y1 y2 y3
      obtain ⟨x0, x1, x2, x3, x4⟩ := cells5 HY0.out
      obtain ⟨y0, y1, y2, y3⟩ := cells4 HY1.out
      go_wp2
      refine bodyPost_ret (results_tmp rfl _ _ _) rfl ⟨by rw [HV.out]; rfl, HB1.out⟩
    · have d2 : (op == 2) = false := by rw [beq_eq_false_iff_ne]; exact h2
      by_cases h3 : op = 3
      · subst h3
        have HV : Hid (hasC 3 ⟨a, b, c, bs s⟩ ⟨x, y, z, bs t⟩ = decide (q ≤ 0)) := Lib.hid (by rw [← HQ.out]; rfl)
        go_enter Tryz.func85, Tryz.ntmps85
        go_wp2_with fail
        try rw [show (w.alloc (.cells #[.int .i64 3, .int .i64 a, .int .i64 b, .int .i64 c, .string s] 73)).alloc (.cells #[.int .i64 x, .int .i64 y, .int .i64 z, .string t] 69) = W0 from HW0.out]
        refine HC.out.mono ?_
        rintro e W1 ⟨rfl, hb⟩
        rw [HQ.out]
        have HB1 : Hid (Below w.heap.size w W1) := Lib.hid (HB0.out.trans (hb.mono HB0.out.size))
        have HM1 := Lib.hid (HM0.out.1.below HM0.out.2 hb)
        have HY0 := Lib.hid ((hb.block _ HL0.out).trans HX0.out)
        have HY1 := Lib.hid ((hb.block _ HL1.out).trans HX1.out)
        have HL2 : Hid (w.heap.size + 1 < W1.heap.size) := Lib.hid (Nat.lt_of_lt_of_le HL1.out hb.size)
        clear hb HC x0 x1 x2 x3 x4 y0 y1 y2 y3
        obtain ⟨x0, x1, x2, x3, x4⟩ := cells5 HY0.out
        obtain ⟨y0, y1, y2, y3⟩ := cells4 HY1.out
        go_wp2
        refine bodyPost_ret (results_tmp rfl _ _ _) rfl ⟨by rw [HV.out]; rfl, HB1.out⟩
      · have d3 : (op == 3) = false := by rw [beq_eq_false_iff_ne]; exact h3
        by_cases h4 : op = 4
        · subst h4
          have HV : Hid (hasC 4 ⟨a, b, c, bs s⟩ ⟨x, y, z, bs t⟩ = decide (0 < q)) := Lib.hid (by rw [← HQ.out]; rfl)
          go_enter Tryz.func85, Tryz.ntmps85
          go_wp2_with fail
          try rw [show (w.alloc (.cells #[.int .i64 4, .int .i64 a, .int .i64 b, .int .i64 c, .string s] 73)).alloc (.cells #[.int .i64 x, .int .i64 y, .int .i64 z, .string t] 69) = W0 from HW0.out]
          refine HC.out.mono ?_
          rintro e W1 ⟨rfl, hb⟩
          rw [HQ.out]
          have HB1 : Hid (Below w.heap.size w W1) := Lib.hid (HB0.out.trans (hb.mono HB0.out.size))
          have HM1 := Lib.hid (HM0.out.1.below HM0.out.2 hb)
          have HY0 := Lib.hid ((hb.block _ HL0.out).trans HX0.out)
          have HY1 := Lib.hid ((hb.block _ HL1.out).trans HX1.out)
          have HL2 : Hid (w.heap.size + 1 < W1.heap.size) := Lib.hid (Nat.lt_of_lt_of_le HL1.out hb.size)
          clear hb HC x0 x1 x2 x3 x4 y0 y1 y2 y3
          obtain ⟨x0, x1, x2, x3, x4⟩ := cells5 HY0.out
          obtain ⟨y0, y1, y2, y3⟩ := cells4 HY1.out
          go_wp2
          refine bodyPost_ret (results_tmp rfl _ _ _) rfl ⟨by rw [HV.out]; rfl, HB1.out⟩
        · have d4 : (op == 4) = false := by rw [beq_eq_false_iff_ne]; exact h4
          by_cases h5 : op = 5
          · subst h5
            have HV : Hid (hasC 5 ⟨a, b, c, bs s⟩ ⟨x, y, z, bs t⟩ = decide (0 ≤ q)) := Lib.hid (by rw [← HQ.out]; rfl)
            go_enter Tryz.func85, Tryz.ntmps85
            go_wp2_with fail
            try rw [show (w.alloc (.cells #[.int .i64 5, .int .i64 a, .int .i64 b, .int .i64 c, .string s] 73)).alloc (.cells #[.int .i64 x, .int .i64 y, .int .i64 z, .string t] 69) = W0 from HW0.out]
            refine HC.out.mono ?_
            rintro e W1 ⟨rfl, hb⟩
            rw [HQ.out]
            have HB1 : Hid (Below w.heap.size w W1) := Lib.hid (HB0.out.trans (hb.mono HB0.out.size))
            have HM1 := Lib.hid (HM0.out.1.below HM0.out.2 hb)
            have HY0 := Lib.hid ((hb.block _ HL0.out).trans HX0.out)
            have HY1 := Lib.hid ((hb.block _ HL1.out).trans HX1.out)
            have HL2 : Hid (w.heap.size + 1 < W1.heap.size) := Lib.hid (Nat.lt_of_lt_of_le HL1.out hb.size)
            clear hb HC x0 x1 x2 x3 x4 y0 y1 y2 y3
            obtain ⟨x0, x1, x2, x3, x4⟩ := cells5 HY0.out
            obtain ⟨y0, y1, y2, y3⟩ := cells4 HY1.out
            go_wp2
            refine bodyPost_ret (results_tmp rfl _ _ _) rfl ⟨by rw [HV.out]; rfl, HB1.out⟩
          · have d5 : (op == 5) = false := by rw [beq_eq_false_iff_ne]; exact h5
            by_cases h6 : op = 6
            · subst h6
              have HV0 : Hid (hasC 6 ⟨a, b, c, bs s⟩ ⟨x, y, z, bs t⟩ = (decide (0 ≤ q) && (match endR 6 ⟨a, b, c, bs s⟩ with
                | none => true
                | some e => decide (cmpV ⟨x, y, z, bs t⟩ e < 0)))) := Lib.hid (by rw [← HQ.out]; rfl)
              go_enter Tryz.func85, Tryz.ntmps85
              go_wp2_with fail
              try rw [show (w.alloc (.cells #[.int .i64 6, .int .i64 a, .int .i64 b, .int .i64 c, .string s] 73)).alloc (.cells #[.int .i64 x, .int .i64 y, .int .i64 z, .string t] 69) = W0 from HW0.out]
              refine HC.out.mono ?_
              rintro e W1 ⟨rfl, hb⟩
              rw [HQ.out]
              have HB1 : Hid (Below w.heap.size w W1) := Lib.hid (HB0.out.trans (hb.mono HB0.out.size))
              have HM1 := Lib.hid (HM0.out.1.below HM0.out.2 hb)
              have HY0 := Lib.hid ((hb.block _ HL0.out).trans HX0.out)
              have HY1 := Lib.hid ((hb.block _ HL1.out).trans HX1.out)
              have HL2 : Hid (w.heap.size + 1 < W1.heap.size) := Lib.hid (Nat.lt_of_lt_of_le HL1.out hb.size)
              clear hb HC x0 x1 x2 x3 x4 y0 y1 y2 y3
              obtain ⟨x0, x1, x2, x3, x4⟩ := cells5 HY0.out
              obtain ⟨y0, y1, y2, y3⟩ := cells4 HY1.out
              have HEN := Lib.hid (end_any 6 a b c s W1 HM1.out.1 HM1.out.2)
              cases he : endR 6 ⟨a, b, c, bs s⟩ with
              | none =>
                have HV : Hid (hasC 6 ⟨a, b, c, bs s⟩ ⟨x, y, z, bs t⟩ = decide (0 ≤ q)) := Lib.hid (by rw [HV0.out, he]; simp)
                have HE : Hid (endV (endR 6 ⟨a, b, c, bs s⟩) = .tuple #[verV 0 0 0 ⟨#[]⟩, .bool false]) := Lib.hid (by rw [he]; rfl)
                clear he HV0
                cases hq0 : decide (0 ≤ q) with
                | true =>
                  go_wp2_with fail
                  refine HEN.out.mono ?_
                  rintro e W2 ⟨rfl, hb⟩
                  rw [HE.out]
                  have HB2 : Hid (∀ o : Obj, Below w.heap.size w (W2.alloc o)) := Lib.hid (fun o => (HB1.out.trans (hb.mono HB1.out.size)).alloc (HB1.out.trans (hb.mono HB1.out.size)).size o)
                  clear hb HEN
                  go_wp2
                  refine bodyPost_ret (results_tmp rfl _ _ _) rfl ⟨by rw [HV.out, hq0]; rfl, HB2.out _⟩
                | false =>
                  go_wp2_with fail
                  refine HEN.out.mono ?_
                  rintro e W2 ⟨rfl, hb⟩
                  rw [HE.out]
                  have HB2 : Hid (∀ o : Obj, Below w.heap.size w (W2.alloc o)) := Lib.hid (fun o => (HB1.out.trans (hb.mono HB1.out.size)).alloc (HB1.out.trans (hb.mono HB1.out.size)).size o)
                  clear hb HEN
                  go_wp2
                  refine bodyPost_ret (results_tmp rfl _ _ _) rfl ⟨by rw [HV.out, hq0]; rfl, HB2.out _⟩
              | some ev =>
                obtain ⟨p1, p2, p3, pp⟩ := ev
                have hpp : pp = [] := end_pre he
                subst hpp
                obtain ⟨zc, hzc⟩ : ∃ zc, cmpV ⟨x, y, z, bs t⟩ ⟨p1, p2, p3, []⟩ = zc := ⟨_, rfl⟩
                have HV : Hid (hasC 6 ⟨a, b, c, bs s⟩ ⟨x, y, z, bs t⟩ = (decide (0 ≤ q) && decide (zc < 0))) := Lib.hid (by rw [HV0.out, he, ← hzc])
                have HE : Hid (endV (endR 6 ⟨a, b, c, bs s⟩) = .tuple #[verV p1 p2 p3 ⟨#[]⟩, .bool true]) := Lib.hid (by rw [he]; rfl)
                have HZC : Hid (cmpV ⟨x, y, z, bs t⟩ ⟨p1, p2, p3, bs ⟨#[]⟩⟩ = zc) := Lib.hid hzc
                clear he HV0 hzc
                cases hq0 : decide (0 ≤ q) with
                | false =>
                  go_wp2_with fail
                  refine HEN.out.mono ?_
                  rintro e W2 ⟨rfl, hb⟩
                  rw [HE.out]
                  have HB2 : Hid (∀ o : Obj, Below w.heap.size w (W2.alloc o)) := Lib.hid (fun o => (HB1.out.trans (hb.mono HB1.out.size)).alloc (HB1.out.trans (hb.mono HB1.out.size)).size o)
                  clear hb HEN
                  go_wp2
                  refine bodyPost_ret (results_tmp rfl _ _ _) rfl ⟨by rw [HV.out, hq0]; rfl, HB2.out _⟩
                | true =>
                  go_wp2_with fail
                  refine HEN.out.mono ?_
                  rintro e W2 ⟨rfl, hb⟩
                  rw [HE.out]
                  have HB2 : Hid (∀ o : Obj, Below w.heap.size w (W2.alloc o)) := Lib.hid (fun o => (HB1.out.trans (hb.mono HB1.out.size)).alloc (HB1.out.trans (hb.mono HB1.out.size)).size o)
                  have hb3 : Below W1.heap.size W1 (W2.alloc (verC p1 p2 p3 ⟨#[]⟩)) := hb.alloc hb.size _
                  have HM3 := Lib.hid (HM1.out.1.below HM1.out.2 hb3)
                  have hY3 : (W2.alloc (.cells #[.int .i64 p1, .int .i64 p2, .int .i64 p3, .string ⟨#[]⟩] 69)).heap[w.heap.size + 1]? = some (verC x y z t) := (hb3.block _ HL2.out).trans HY1.out
                  obtain ⟨z0, z1, z2, z3⟩ := cells4 hY3
                  have HC2 := Lib.hid (Compare_any x y z t p1 p2 p3 ⟨#[]⟩ (W2.alloc (verC p1 p2 p3 ⟨#[]⟩)) HT.out (by decide) HM3.out.1 HM3.out.2)
                  clear hb HEN hb3 hY3
                  go_wp2_with fail
                  refine HC2.out.mono ?_
                  rintro e W4 ⟨rfl, hb⟩
                  rw [HZC.out]
                  have HB4 : Hid (Below w.heap.size w W4) := Lib.hid ((HB2.out _).trans (hb.mono (HB2.out _).size))
                  clear hb HC2 z0 z1 z2 z3 x0 x1 x2 x3 x4 y0 y1 y2 y3
                  go_wp2
                  refine bodyPost_ret (results_tmp rfl _ _ _) rfl ⟨by rw [HV.out, hq0]; rfl, HB4.out⟩
            · have d6 : (op == 6) = false := by rw [beq_eq_false_iff_ne]; exact h6
              by_cases h7 : op = 7
              · subst h7
                have HV0 : Hid (hasC 7 ⟨a, b, c, bs s⟩ ⟨x, y, z, bs t⟩ = (decide (0 ≤ q) && (match endR 7 ⟨a, b, c, bs s⟩ with
                  | none => true
                  | some e => decide (cmpV ⟨x, y, z, bs t⟩ e < 0)))) := Lib.hid (by rw [← HQ.out]; rfl)
                go_enter Tryz.func85, Tryz.ntmps85
                go_wp2_with fail
                try rw [show (w.alloc (.cells #[.int .i64 7, .int .i64 a, .int .i64 b, .int .i64 c, .string s] 73)).alloc (.cells #[.int .i64 x, .int .i64 y, .int .i64 z, .string t] 69) = W0 from HW0.out]
                refine HC.out.mono ?_
                rintro e W1 ⟨rfl, hb⟩
                rw [HQ.out]
                have HB1 : Hid (Below w.heap.size w W1) := Lib.hid (HB0.out.trans (hb.mono HB0.out.size))
                have HM1 := Lib.hid (HM0.out.1.below HM0.out.2 hb)
                have HY0 := Lib.hid ((hb.block _ HL0.out).trans HX0.out)
                have HY1 := Lib.hid ((hb.block _ HL1.out).trans HX1.out)
                have HL2 : Hid (w.heap.size + 1 < W1.heap.size) := Lib.hid (Nat.lt_of_lt_of_le HL1.out hb.size)
                clear hb HC x0 x1 x2 x3 x4 y0 y1 y2 y3
                obtain ⟨x0, x1, x2, x3, x4⟩ := cells5 HY0.out
                obtain ⟨y0, y1, y2, y3⟩ := cells4 HY1.out
                have HEN := Lib.hid (end_any 7 a b c s W1 HM1.out.1 HM1.out.2)
                cases he : endR 7 ⟨a, b, c, bs s⟩ with
                | none =>
                  have HV : Hid (hasC 7 ⟨a, b, c, bs s⟩ ⟨x, y, z, bs t⟩ = decide (0 ≤ q)) := Lib.hid (by rw [HV0.out, he]; simp)
                  have HE : Hid (endV (endR 7 ⟨a, b, c, bs s⟩) = .tuple #[verV 0 0 0 ⟨#[]⟩, .bool false]) := Lib.hid (by rw [he]; rfl)
                  clear he HV0
                  cases hq0 : decide (0 ≤ q) with
                  | true =>
                    go_wp2_with fail
                    refine HEN.out.mono ?_
                    rintro e W2 ⟨rfl, hb⟩
                    rw [HE.out]
                    have HB2 : Hid (∀ o : Obj, Below w.heap.size w (W2.alloc o)) := Lib.hid (fun o => (HB1.out.trans (hb.mono HB1.out.size)).alloc (HB1.out.trans (hb.mono HB1.out.size)).size o)
                    clear hb HEN
                    go_wp2
                    refine bodyPost_ret (results_tmp rfl _ _ _) rfl ⟨by rw [HV.out, hq0]; rfl, HB2.out _⟩
                  | false =>
                    go_wp2_with fail
                    refine HEN.out.mono ?_
                    rintro e W2 ⟨rfl, hb⟩
                    rw [HE.out]
                    have HB2 : Hid (∀ o : Obj, Below w.heap.size w (W2.alloc o)) := Lib.hid (fun o => (HB1.out.trans (hb.mono HB1.out.size)).alloc (HB1.out.trans (hb.mono HB1.out.size)).size o)
                    clear hb HEN
                    go_wp2
                    refine bodyPost_ret (results_tmp rfl _ _ _) rfl ⟨by rw [HV.out, hq0]; rfl, HB2.out _⟩
                | some ev =>
                  obtain ⟨p1, p2, p3, pp⟩ := ev
                  have hpp : pp = [] := end_pre he
                  subst hpp
                  obtain ⟨zc, hzc⟩ : ∃ zc, cmpV ⟨x, y, z, bs t⟩ ⟨p1, p2, p3, []⟩ = zc := ⟨_, rfl⟩
                  have HV : Hid (hasC 7 ⟨a, b, c, bs s⟩ ⟨x, y, z, bs t⟩ = (decide (0 ≤ q) && decide (zc < 0))) := Lib.hid (by rw [HV0.out, he, ← hzc])
                  have HE : Hid (endV (endR 7 ⟨a, b, c, bs s⟩) = .tuple #[verV p1 p2 p3 ⟨#[]⟩, .bool true]) := Lib.hid (by rw [he]; rfl)
                  have HZC : Hid (cmpV ⟨x, y, z, bs t⟩ ⟨p1, p2, p3, bs ⟨#[]⟩⟩ = zc) := Lib.hid hzc
                  clear he HV0 hzc
                  cases hq0 : decide (0 ≤ q) with
                  | false =>
                    go_wp2_with fail
                    refine HEN.out.mono ?_
                    rintro e W2 ⟨rfl, hb⟩
                    rw [HE.out]
                    have HB2 : Hid (∀ o : Obj, Below w.heap.size w (W2.alloc o)) := Lib.hid (fun o => (HB1.out.trans (hb.mono HB1.out.size)).alloc (HB1.out.trans (hb.mono HB1.out.size)).size o)
                    clear hb HEN
                    go_wp2
                    refine bodyPost_ret (results_tmp rfl _ _ _) rfl ⟨by rw [HV.out, hq0]; rfl, HB2.out _⟩
                  | true =>
                    go_wp2_with fail
                    refine HEN.out.mono ?_
                    rintro e W2 ⟨rfl, hb⟩
                    rw [HE.out]
                    have HB2 : Hid (∀ o : Obj, Below w.heap.size w (W2.alloc o)) := Lib.hid (fun o => (HB1.out.trans (hb.mono HB1.out.size)).alloc (HB1.out.trans (hb.mono HB1.out.size)).size o)
                    have hb3 : Below W1.heap.size W1 (W2.alloc (verC p1 p2 p3 ⟨#[]⟩)) := hb.alloc hb.size _
                    have HM3 := Lib.hid (HM1.out.1.below HM1.out.2 hb3)
                    have hY3 : (W2.alloc (.cells #[.int .i64 p1, .int .i64 p2, .int .i64 p3, .string ⟨#[]⟩] 69)).heap[w.heap.size + 1]? = some (verC x y z t) := (hb3.block _ HL2.out).trans HY1.out
                    obtain ⟨z0, z1, z2, z3⟩ := cells4 hY3
                    have HC2 := Lib.hid (Compare_any x y z t p1 p2 p3 ⟨#[]⟩ (W2.alloc (verC p1 p2 p3 ⟨#[]⟩)) HT.out (by decide) HM3.out.1 HM3.out.2)
                    clear hb HEN hb3 hY3
                    go_wp2_with fail
                    refine HC2.out.mono ?_
                    rintro e W4 ⟨rfl, hb⟩
                    rw [HZC.out]
                    have HB4 : Hid (Below w.heap.size w W4) := Lib.hid ((HB2.out _).trans (hb.mono (HB2.out _).size))
                    clear hb HC2 z0 z1 z2 z3 x0 x1 x2 x3 x4 y0 y1 y2 y3
                    go_wp2
                    refine bodyPost_ret (results_tmp rfl _ _ _) rfl ⟨by rw [HV.out, hq0]; rfl, HB4.out⟩
              · have d7 : (op == 7) = false := by rw [beq_eq_false_iff_ne]; exact h7
                have HV : Hid (hasC op ⟨a, b, c, bs s⟩ ⟨x, y, z, bs t⟩ = true) := Lib.hid (by
                  unfold hasC
                  rw [if_neg h1_, if_neg h2, if_neg h3, if_neg h4, if_neg h5, if_neg (by omega)])
                clear h1_ h2 h3 h4 h5 h6 h7
                go_enter Tryz.func85, Tryz.ntmps85
                go_wp2_with fail
                try rw [show (w.alloc (.cells #[.int .i64 op, .int .i64 a, .int .i64 b, .int .i64 c, .string s] 73)).alloc (.cells #[.int .i64 x, .int .i64 y, .int .i64 z, .string t] 69) = W0 from HW0.out]
                refine HC.out.mono ?_
                rintro e W1 ⟨rfl, hb⟩
                rw [HQ.out]
                have HB1 : Hid (Below w.heap.size w W1) := Lib.hid (HB0.out.trans (hb.mono HB0.out.size))
                have HM1 := Lib.hid (HM0.out.1.below HM0.out.2 hb)
                have HY0 := Lib.hid ((hb.block _ HL0.out).trans HX0.out)
                have HY1 := Lib.hid ((hb.block _ HL1.out).trans HX1.out)
                have HL2 : Hid (w.heap.size + 1 < W1.heap.size) := Lib.hid (Nat.lt_of_lt_of_le HL1.out hb.size)
                clear hb HC x0 x1 x2 x3 x4 y0 y1 y2 y3
                obtain ⟨x0, x1, x2, x3, x4⟩ := cells5 HY0.out
                obtain ⟨y0, y1, y2, y3⟩ := cells4 HY1.out
                go_wp2
                refine bodyPost_ret (results_tmp rfl _ _ _) rfl ⟨by rw [HV.out]; rfl, HB1.out⟩
end Go.Proofs.YtpnbbbhbbnemlaaGreatDoor
