/-
  CONTRACTS of package semver: Parse, Right.
-/
import Derived.Test.YtpnbbbhbbnemlaaGreatDoorSGd
import Derived.Deep.Cut
namespace Go.Proofs.YtpnbbbhbbnemlaaGreatDoor
open Go.RowKit
open SemP
set_option linter.unusedVariables false
set_option linter.unusedSimpArgs false
set_option maxRecDepth 100000

/-- A world of a call that has made its result's box alone. -/
structure PAt (w W : World) : Prop where
  bel : Below w.heap.size w W
  len : LenAt W
  row : W.heap[w.heap.size]? = some (verC 0 0 0 ⟨#[]⟩)
theorem PAt.start {w : World} (hm : LenAt w) (h1 : 1 < w.heap.size) : PAt w (w.alloc (verC 0 0 0 ⟨#[]⟩)) := by
  have hb : Below w.heap.size w (w.alloc (verC 0 0 0 ⟨#[]⟩)) := (Below.refl _ w).alloc (Nat.le_refl _) _
  obtain ⟨m, hm⟩ := hm
  exact ⟨hb, ⟨m, (hb.cell (show 1 < _ from h1)).trans hm⟩, World.alloc_heap_new _ _⟩
theorem PAt.lt {w W : World} (h : PAt w W) : w.heap.size < W.heap.size := by
  rcases Nat.lt_or_ge w.heap.size W.heap.size with hlt | hge
  · exact hlt
  · have := h.row; rw [Array.getElem?_eq_none hge] at this; cases this
theorem PAt.next {w W W' : World} (h : PAt w W) (h1 : 1 < w.heap.size) (hb : Below W.heap.size W W') : PAt w W' := by
  have hlt := h.lt
  obtain ⟨m, hm⟩ := h.len
  exact ⟨h.bel.trans (hb.mono (by omega)), ⟨m, (hb.cell (show 1 < _ by omega)).trans hm⟩, (hb.block _ hlt).trans h.row⟩
theorem PAt.drew {w W : World} (h : PAt w W) (h1 : 1 < w.heap.size) (k : Nat) : PAt w (W.drewN k) := h.next h1 ⟨rfl, rfl, rfl, Nat.le_refl _, fun _ _ => rfl⟩
theorem froz4 {w : World} {g : Nat} {x y z u : Value} {T : TypeId} (h : w.heap[g]? = some (.cells #[x, y, z, u] T (0, 0))) : w.frozen? ⟨g, 0, none⟩ = false ∧ w.frozen? ⟨g, 1, none⟩ = false ∧ w.frozen? ⟨g, 2, none⟩ = false ∧ w.frozen? ⟨g, 3, none⟩ = false :=
  ⟨by simp only [World.frozen?, h]; rfl, by simp only [World.frozen?, h]; rfl, by simp only [World.frozen?, h]; rfl, by simp only [World.frozen?, h]; rfl⟩
def parseR : Option Ver → Value
  | some v => .tuple #[verV v.major v.minor v.patch (mk v.pre), .int .i64 0]
  | none => .tuple #[verV 0 0 0 ⟨#[]⟩, .int .i64 10]
theorem cut_lens (l : Str) (c : UInt8) : (Lib.cut l [c]).1.length ≤ l.length ∧ (Lib.cut l [c]).2.1.length ≤ l.length := by
  rcases cut_pieces l c with ⟨p, r, h1, _, h3, _⟩ | ⟨h1, _, _⟩
  · rw [h1, h3]; simp; omega
  · rw [h1]; simp
theorem numV_cases (l : Str) : ∃ (n : Int) (ok : Bool), numV l = .tuple #[.int .i64 n, .bool ok] ∧ ((ok = true ∧ ∃ k : Nat, num l = some k ∧ n = (k : Int)) ∨ (ok = false ∧ num l = none)) := by
  unfold numV
  cases h : num l with
  | none => exact ⟨0, false, rfl, .inr ⟨rfl, rfl⟩⟩
  | some k => exact ⟨k, true, rfl, .inl ⟨rfl, k, rfl, rfl⟩⟩
theorem parse_bad {s core pre : Str} (h : Lib.cut s [45] = (core, pre, true)) (hr : rightPre pre = false) : parseV s = none := by
  unfold parseV; rw [h]; simp [hr]
theorem parse_none {s core pre p1 r1 p2 r2 : Str} {d d1 d2 : Bool} (h : Lib.cut s [45] = (core, pre, d)) (h2 : Lib.cut core [46] = (p1, r1, d1)) (h3 : Lib.cut r1 [46] = (p2, r2, d2)) (hn : num p1 = none ∨ num p2 = none ∨ num r2 = none) : parseV s = none := by
  unfold parseV; rw [h]; simp only; rw [h2]; simp only; rw [h3]; simp only
  split
  · rfl
  · rcases hn with hn | hn | hn <;> rw [hn]
    · cases num p1 <;> rfl
    · cases num p1 <;> cases num p2 <;> rfl
theorem parse_some {s core pre p1 r1 p2 r2 : Str} {d d1 d2 : Bool} {a b c : Nat} (h : Lib.cut s [45] = (core, pre, d)) (hp : d = true → rightPre pre = true) (h2 : Lib.cut core [46] = (p1, r1, d1)) (h3 : Lib.cut r1 [46] = (p2, r2, d2)) (ha : num p1 = some a) (hb : num p2 = some b) (hc : num r2 = some c) : parseV s = some ⟨a, b, c, pre⟩ := by
  unfold parseV; rw [h]; simp only; rw [h2]; simp only; rw [h3]; simp only
  rw [if_neg, ha, hb, hc]
  cases d with
  | false => simp
  | true => rw [hp rfl]; simp
set_option maxHeartbeats 4000000 in
theorem Parse_any (s : ByteArray) (w : World) (hs : s.size < 4294967281) (hm : LenAt w) (h1 : 1 < w.heap.size) :
    Calls Tryz.prog 94 #[.string s] w fun e w' => e = .returned (parseR (parseV (bs s))) ∧ Below w.heap.size w w' := by
  have H0 := Lib.hid (PAt.start hm h1)
  have hzs : (bs s).length = s.size := (Lib.size_eq s).symm
  obtain ⟨m, hm0⟩ := H0.out.len
  have HC1 := Lib.hid (Tryz.strings_Cut s ⟨#[45]⟩ m _ hs hm0)
  obtain ⟨core, pre, d, hc1⟩ : ∃ core pre d, Lib.cut (bs s) [45] = (core, pre, d) := ⟨_, _, _, rfl⟩
  obtain ⟨p1, r1, d1, hc2⟩ : ∃ p1 r1 d1, Lib.cut core [46] = (p1, r1, d1) := ⟨_, _, _, rfl⟩
  obtain ⟨p2, r2, d2, hc3⟩ : ∃ p2 r2 d2, Lib.cut r1 [46] = (p2, r2, d2) := ⟨_, _, _, rfl⟩
  have l1 := cut_lens (bs s) 45
  have l2 := cut_lens core 46
  have l3 := cut_lens r1 46
  rw [hc1] at l1; rw [hc2] at l2; rw [hc3] at l3
  simp only at l1 l2 l3
  have HCC := Lib.hid (And.intro hc1 (And.intro hc2 hc3))
  clear hm hm0 hc1 hc2 hc3
  go_enter Tryz.func94, Tryz.ntmps94
  go_wp2_with fail
  refine HC1.out.mono ?_
  rintro e w1 ⟨rfl, k, rfl⟩
  have H1 := Lib.hid (H0.out.drew h1 k)
  rw [show Lib.cut s.data.toList (ByteArray.mk #[45]).data.toList = (core, pre, d) from HCC.out.1]
  generalize (w.alloc (verC 0 0 0 ⟨#[]⟩)).drewN k = W1 at H1
  clear HC1 H0
  -- THE REST
  cases d with
  | false =>
    obtain ⟨m2, hm2⟩ := H1.out.len
    have HC2 := Lib.hid (Tryz.strings_Cut (mk core) ⟨#[46]⟩ m2 _ (by rw [mk_size]; omega) hm2)
    clear hm2
    go_wp2_with fail
    refine HC2.out.mono ?_
    rintro e w1 ⟨rfl, k2, rfl⟩
    have H3 := Lib.hid (H1.out.drew h1 k2)
    rw [show Lib.cut (mk core).data.toList (ByteArray.mk #[46]).data.toList = (p1, r1, d1) from HCC.out.2.1]
    generalize World.drewN _ k2 = W3 at H3
    clear HC2
    obtain ⟨m3, hm3⟩ := H3.out.len
    have HC3 := Lib.hid (Tryz.strings_Cut (mk r1) ⟨#[46]⟩ m3 _ (by rw [mk_size]; omega) hm3)
    clear hm3
    go_wp2_with fail
    refine HC3.out.mono ?_
    rintro e w1 ⟨rfl, k3, rfl⟩
    have H4 := Lib.hid (H3.out.drew h1 k3)
    rw [show Lib.cut (mk r1).data.toList (ByteArray.mk #[46]).data.toList = (p2, r2, d2) from HCC.out.2.2]
    generalize World.drewN _ k3 = W4 at H4
    clear HC3 H3
    obtain ⟨n1, ok1, e1, hk1⟩ := numV_cases p1
    obtain ⟨n2, ok2, e2, hk2⟩ := numV_cases p2
    obtain ⟨n3, ok3, e3, hk3⟩ := numV_cases r2
    have HE := Lib.hid (And.intro e1 (And.intro e2 e3))
    have HK := Lib.hid (And.intro hk1 (And.intro hk2 hk3))
    clear e1 e2 e3 hk1 hk2 hk3
    go_wp2_with fail
    refine (number_any (mk p1) _ (by rw [mk_size]; omega)).mono ?_
    rintro e W5 ⟨rfl, h5⟩
    have H5 := Lib.hid (H4.out.next h1 h5)
    rw [show numV (bs (mk p1)) = .tuple #[.int .i64 n1, .bool ok1] from HE.out.1]
    clear h5 H4
    go_wp2_with fail
    refine (number_any (mk p2) _ (by rw [mk_size]; omega)).mono ?_
    rintro e W6 ⟨rfl, h6⟩
    have H6 := Lib.hid (H5.out.next h1 h6)
    rw [show numV (bs (mk p2)) = .tuple #[.int .i64 n2, .bool ok2] from HE.out.2.1]
    clear h6 H5
    go_wp2_with fail
    refine (number_any (mk r2) _ (by rw [mk_size]; omega)).mono ?_
    rintro e W7 ⟨rfl, h7⟩
    have H7 := Lib.hid (H6.out.next h1 h7)
    rw [show numV (bs (mk r2)) = .tuple #[.int .i64 n3, .bool ok3] from HE.out.2.2]
    clear h7 H6
    obtain ⟨x0, x1, x2, x3⟩ := cells4 H7.out.row
    obtain ⟨y0, y1, y2, y3⟩ := froz4 H7.out.row
    have HB := Lib.hid H7.out.bel
    clear H7
    have HN : Hid (ok1 = false ∨ ok2 = false ∨ ok3 = false → parseV (bs s) = none) := Lib.hid (fun h => parse_none HCC.out.1 HCC.out.2.1 HCC.out.2.2 (by
      rcases h with h | h | h
      · rcases HK.out.1 with ⟨e, _⟩ | ⟨_, e⟩
        · rw [h] at e; cases e
        · exact .inl e
      · rcases HK.out.2.1 with ⟨e, _⟩ | ⟨_, e⟩
        · rw [h] at e; cases e
        · exact .inr (.inl e)
      · rcases HK.out.2.2 with ⟨e, _⟩ | ⟨_, e⟩
        · rw [h] at e; cases e
        · exact .inr (.inr e)))
    have HY : Hid (ok1 = true → ok2 = true → ok3 = true → parseV (bs s) = some ⟨n1, n2, n3, pre⟩) := Lib.hid (fun h1 h2 h3 => by
      rcases HK.out with ⟨⟨_, a, ha, ea⟩ | ⟨e, _⟩, ⟨_, b, hb, eb⟩ | ⟨e, _⟩, ⟨_, c, hc, ec⟩ | ⟨e, _⟩⟩
      · rw [ea, eb, ec]
        exact parse_some HCC.out.1 (fun h => by cases h) HCC.out.2.1 HCC.out.2.2 ha hb hc
      all_goals (first | (rw [h1] at e; cases e) | (rw [h2] at e; cases e) | (rw [h3] at e; cases e)))
    have HV := Lib.hid HB.out
    cases ok1 <;> cases ok2 <;> cases ok3
    all_goals go_wp2
    rotate_right 1
    · refine bodyPost_ret (v := .tuple #[verV n1 n2 n3 (mk pre), .int .i64 0]) (by simp [results, Tryz.results94, go_sem, x0, x1, x2, x3]) rfl ⟨?_, ?_⟩
      (rw [HY.out trivial trivial trivial]; rfl)
      exact (((HB.out.setCell (p := ⟨w.heap.size, 0, none⟩) (Nat.le_refl _) _).setCell (p := ⟨w.heap.size, 1, none⟩) (Nat.le_refl _) _).setCell (p := ⟨w.heap.size, 2, none⟩) (Nat.le_refl _) _).setCell (p := ⟨w.heap.size, 3, none⟩) (Nat.le_refl _) _
    all_goals (refine bodyPost_ret (v := .tuple #[verV 0 0 0 ⟨#[]⟩, .int .i64 10]) (by simp [results, Tryz.results94, go_sem, x0, x1, x2, x3]) rfl ⟨?_, ?_⟩; (rw [HN.out (by simp)]; rfl); exact (((HB.out.setCell (p := ⟨w.heap.size, 0, none⟩) (Nat.le_refl _) _).setCell (p := ⟨w.heap.size, 1, none⟩) (Nat.le_refl _) _).setCell (p := ⟨w.heap.size, 2, none⟩) (Nat.le_refl _) _).setCell (p := ⟨w.heap.size, 3, none⟩) (Nat.le_refl _) _)
  | true =>
    obtain ⟨m1, hm1⟩ := H1.out.len
    have HRP := Lib.hid (rightPre_any (mk pre) W1 (by rw [mk_size]; omega) ⟨m1, hm1⟩ (by have := H1.out.lt; omega))
    clear hm1
    cases hr : rightPre pre with
    | false =>
      have HR := Lib.hid hr
      clear hr
      go_wp2_with fail
      refine HRP.out.mono ?_
      rintro e W2 ⟨rfl, h2⟩
      have H2 := Lib.hid (H1.out.next h1 h2)
      rw [show rightPre (bs (mk pre)) = false from HR.out]
      clear h2 H1 HRP
      obtain ⟨x0, x1, x2, x3⟩ := cells4 H2.out.row
      obtain ⟨y0, y1, y2, y3⟩ := froz4 H2.out.row
      have HN : Hid (parseV (bs s) = none) := Lib.hid (parse_bad HCC.out.1 HR.out)
      have HB := Lib.hid H2.out.bel
      clear H2
      go_wp2
      (refine bodyPost_ret (v := .tuple #[verV 0 0 0 ⟨#[]⟩, .int .i64 10]) (by simp [results, Tryz.results94, go_sem, x0, x1, x2, x3]) rfl ⟨?_, ?_⟩; (rw [HN.out]; rfl); exact (((HB.out.setCell (p := ⟨w.heap.size, 0, none⟩) (Nat.le_refl _) _).setCell (p := ⟨w.heap.size, 1, none⟩) (Nat.le_refl _) _).setCell (p := ⟨w.heap.size, 2, none⟩) (Nat.le_refl _) _).setCell (p := ⟨w.heap.size, 3, none⟩) (Nat.le_refl _) _)
    | true =>
      have HR := Lib.hid hr
      clear hr
      go_wp2_with fail
      refine HRP.out.mono ?_
      rintro e W2 ⟨rfl, h2⟩
      have H2 := Lib.hid (H1.out.next h1 h2)
      rw [show rightPre (bs (mk pre)) = true from HR.out]
      clear h2 H1 HRP
      obtain ⟨m2, hm2⟩ := H2.out.len
      have HC2 := Lib.hid (Tryz.strings_Cut (mk core) ⟨#[46]⟩ m2 _ (by rw [mk_size]; omega) hm2)
      clear hm2
      go_wp2_with fail
      refine HC2.out.mono ?_
      rintro e w1 ⟨rfl, k2, rfl⟩
      have H3 := Lib.hid (H2.out.drew h1 k2)
      rw [show Lib.cut (mk core).data.toList (ByteArray.mk #[46]).data.toList = (p1, r1, d1) from HCC.out.2.1]
      generalize World.drewN _ k2 = W3 at H3
      clear HC2
      obtain ⟨m3, hm3⟩ := H3.out.len
      have HC3 := Lib.hid (Tryz.strings_Cut (mk r1) ⟨#[46]⟩ m3 _ (by rw [mk_size]; omega) hm3)
      clear hm3
      go_wp2_with fail
      refine HC3.out.mono ?_
      rintro e w1 ⟨rfl, k3, rfl⟩
      have H4 := Lib.hid (H3.out.drew h1 k3)
      rw [show Lib.cut (mk r1).data.toList (ByteArray.mk #[46]).data.toList = (p2, r2, d2) from HCC.out.2.2]
      generalize World.drewN _ k3 = W4 at H4
      clear HC3 H3
      obtain ⟨n1, ok1, e1, hk1⟩ := numV_cases p1
      obtain ⟨n2, ok2, e2, hk2⟩ := numV_cases p2
      obtain ⟨n3, ok3, e3, hk3⟩ := numV_cases r2
      have HE := Lib.hid (And.intro e1 (And.intro e2 e3))
      have HK := Lib.hid (And.intro hk1 (And.intro hk2 hk3))
      clear e1 e2 e3 hk1 hk2 hk3
      go_wp2_with fail
      refine (number_any (mk p1) _ (by rw [mk_size]; omega)).mono ?_
      rintro e W5 ⟨rfl, h5⟩
      have H5 := Lib.hid (H4.out.next h1 h5)
      rw [show numV (bs (mk p1)) = .tuple #[.int .i64 n1, .bool ok1] from HE.out.1]
      clear h5 H4
      go_wp2_with fail
      refine (number_any (mk p2) _ (by rw [mk_size]; omega)).mono ?_
      rintro e W6 ⟨rfl, h6⟩
      have H6 := Lib.hid (H5.out.next h1 h6)
      rw [show numV (bs (mk p2)) = .tuple #[.int .i64 n2, .bool ok2] from HE.out.2.1]
      clear h6 H5
      go_wp2_with fail
      refine (number_any (mk r2) _ (by rw [mk_size]; omega)).mono ?_
      rintro e W7 ⟨rfl, h7⟩
      have H7 := Lib.hid (H6.out.next h1 h7)
      rw [show numV (bs (mk r2)) = .tuple #[.int .i64 n3, .bool ok3] from HE.out.2.2]
      clear h7 H6
      obtain ⟨x0, x1, x2, x3⟩ := cells4 H7.out.row
      obtain ⟨y0, y1, y2, y3⟩ := froz4 H7.out.row
      have HB := Lib.hid H7.out.bel
      clear H7
      have HN : Hid (ok1 = false ∨ ok2 = false ∨ ok3 = false → parseV (bs s) = none) := Lib.hid (fun h => parse_none HCC.out.1 HCC.out.2.1 HCC.out.2.2 (by
        rcases h with h | h | h
        · rcases HK.out.1 with ⟨e, _⟩ | ⟨_, e⟩
          · rw [h] at e; cases e
          · exact .inl e
        · rcases HK.out.2.1 with ⟨e, _⟩ | ⟨_, e⟩
          · rw [h] at e; cases e
          · exact .inr (.inl e)
        · rcases HK.out.2.2 with ⟨e, _⟩ | ⟨_, e⟩
          · rw [h] at e; cases e
          · exact .inr (.inr e)))
      have HY : Hid (ok1 = true → ok2 = true → ok3 = true → parseV (bs s) = some ⟨n1, n2, n3, pre⟩) := Lib.hid (fun h1 h2 h3 => by
        rcases HK.out with ⟨⟨_, a, ha, ea⟩ | ⟨e, _⟩, ⟨_, b, hb, eb⟩ | ⟨e, _⟩, ⟨_, c, hc, ec⟩ | ⟨e, _⟩⟩
        · rw [ea, eb, ec]
          exact parse_some HCC.out.1 (fun _ => HR.out) HCC.out.2.1 HCC.out.2.2 ha hb hc
        all_goals (first | (rw [h1] at e; cases e) | (rw [h2] at e; cases e) | (rw [h3] at e; cases e)))
      have HV := Lib.hid HB.out
      cases ok1 <;> cases ok2 <;> cases ok3
      all_goals go_wp2
      rotate_right 1
      · refine bodyPost_ret (v := .tuple #[verV n1 n2 n3 (mk pre), .int .i64 0]) (by simp [results, Tryz.results94, go_sem, x0, x1, x2, x3]) rfl ⟨?_, ?_⟩
        (rw [HY.out trivial trivial trivial]; rfl)
        exact (((HB.out.setCell (p := ⟨w.heap.size, 0, none⟩) (Nat.le_refl _) _).setCell (p := ⟨w.heap.size, 1, none⟩) (Nat.le_refl _) _).setCell (p := ⟨w.heap.size, 2, none⟩) (Nat.le_refl _) _).setCell (p := ⟨w.heap.size, 3, none⟩) (Nat.le_refl _) _
      all_goals (refine bodyPost_ret (v := .tuple #[verV 0 0 0 ⟨#[]⟩, .int .i64 10]) (by simp [results, Tryz.results94, go_sem, x0, x1, x2, x3]) rfl ⟨?_, ?_⟩; (rw [HN.out (by simp)]; rfl); exact (((HB.out.setCell (p := ⟨w.heap.size, 0, none⟩) (Nat.le_refl _) _).setCell (p := ⟨w.heap.size, 1, none⟩) (Nat.le_refl _) _).setCell (p := ⟨w.heap.size, 2, none⟩) (Nat.le_refl _) _).setCell (p := ⟨w.heap.size, 3, none⟩) (Nat.le_refl _) _)
end Go.Proofs.YtpnbbbhbbnemlaaGreatDoor
