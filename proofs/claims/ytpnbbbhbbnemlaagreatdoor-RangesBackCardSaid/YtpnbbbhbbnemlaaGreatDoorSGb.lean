/-
  CONTRACT of the document's own package of layer 1: Right (printed by genrefright.py).
  Two versions compared.
  PURE: a mark more makes a Pre greater; less without a Pre. WORDS: several boxes at once.
  CONTRACT of the document's own package of layer 1: Parse (printed by genrefparse.py).
-/
import Derived.Test.YtpnbbbhbbnemlaaGreatDoorSGa
import Derived.Test.YtpnbbbhbbnemlaaGreatDoorSGd
import Derived.Test.YtpnbbbhbbnemlaaGreatDoorSParse
namespace Go.Proofs.YtpnbbbhbbnemlaaGreatDoor
open Go.RowKit
open SemP
set_option linter.unusedVariables false
set_option linter.unusedSimpArgs false
set_option maxRecDepth 100000

abbrev refC (a b c : Int) (s : ByteArray) : Obj := .cells #[.int .i64 a, .int .i64 b, .int .i64 c, .string s] 74
set_option maxHeartbeats 4000000 in
theorem RefRight_any (a b c : Int) (s : ByteArray) (w : World) (hs : s.size ≤ 1000000000000) :
    Calls Tryz.prog 31 #[verV a b c s] w fun e w' => e = .returned (.bool (Ver.right ⟨a, b, c, bs s⟩)) ∧ Below w.heap.size w w' := by
  have hb0 : Below w.heap.size w (w.alloc (refC a b c s)) := (Below.refl _ w).alloc (Nat.le_refl _) _
  obtain ⟨x0, x1, x2, x3⟩ := cells4 (World.alloc_heap_new w (refC a b c s))
  have HRP := Lib.hid (Pre_any s (w.alloc (refC a b c s)) hs)
  have HB0 := Lib.hid hb0
  have HR := Lib.hid (show Ver.right ⟨a, b, c, bs s⟩ = ((decide (0 ≤ a) && decide (a ≤ 999999)) && (decide (0 ≤ b) && decide (b ≤ 999999)) && (decide (0 ≤ c) && decide (c ≤ 999999)) && ((bs s).isEmpty || rightPre (bs s))) from rfl)
  clear hb0
  cases d0 : decide (0 ≤ a) with
  | false =>
    have HV : Hid (Ver.right ⟨a, b, c, bs s⟩ = false) := Lib.hid (by rw [HR.out, d0]; simp)
    go_enter Tryz.func31, Tryz.ntmps31
    go_wp2
    refine bodyPost_ret (results_tmp rfl _ _ _) rfl ⟨by rw [HV.out]; rfl, HB0.out⟩
  | true =>
    cases d1 : decide (a ≤ 999999) with
    | false =>
      have HV : Hid (Ver.right ⟨a, b, c, bs s⟩ = false) := Lib.hid (by rw [HR.out, d1]; simp)
      go_enter Tryz.func31, Tryz.ntmps31
      go_wp2
      refine bodyPost_ret (results_tmp rfl _ _ _) rfl ⟨by rw [HV.out]; rfl, HB0.out⟩
    | true =>
      cases d2 : decide (0 ≤ b) with
      | false =>
        have HV : Hid (Ver.right ⟨a, b, c, bs s⟩ = false) := Lib.hid (by rw [HR.out, d2]; simp)
        go_enter Tryz.func31, Tryz.ntmps31
        go_wp2
        refine bodyPost_ret (results_tmp rfl _ _ _) rfl ⟨by rw [HV.out]; rfl, HB0.out⟩
      | true =>
        cases d3 : decide (b ≤ 999999) with
        | false =>
          have HV : Hid (Ver.right ⟨a, b, c, bs s⟩ = false) := Lib.hid (by rw [HR.out, d3]; simp)
          go_enter Tryz.func31, Tryz.ntmps31
          go_wp2
          refine bodyPost_ret (results_tmp rfl _ _ _) rfl ⟨by rw [HV.out]; rfl, HB0.out⟩
        | true =>
          cases d4 : decide (0 ≤ c) with
          | false =>
            have HV : Hid (Ver.right ⟨a, b, c, bs s⟩ = false) := Lib.hid (by rw [HR.out, d4]; simp)
            go_enter Tryz.func31, Tryz.ntmps31
            go_wp2
            refine bodyPost_ret (results_tmp rfl _ _ _) rfl ⟨by rw [HV.out]; rfl, HB0.out⟩
          | true =>
            cases d5 : decide (c ≤ 999999) with
            | false =>
              have HV : Hid (Ver.right ⟨a, b, c, bs s⟩ = false) := Lib.hid (by rw [HR.out, d5]; simp)
              go_enter Tryz.func31, Tryz.ntmps31
              go_wp2
              refine bodyPost_ret (results_tmp rfl _ _ _) rfl ⟨by rw [HV.out]; rfl, HB0.out⟩
            | true =>
              have HV : Hid (Ver.right ⟨a, b, c, bs s⟩ = ((bs s).isEmpty || rightPre (bs s))) := Lib.hid (by rw [HR.out, d0, d1, d2, d3, d4, d5]; simp)
              go_enter Tryz.func31, Tryz.ntmps31
              go_wp2_with fail
              refine HRP.out.mono ?_
              rintro e W2 ⟨rfl, h2⟩
              have HB2 := Lib.hid (HB0.out.trans (h2.mono (by simp)))
              clear h2 HRP
              go_wp2
              all_goals (refine bodyPost_ret (results_tmp rfl _ _ _) rfl ⟨?_, HB2.out⟩)
              all_goals (rw [HV.out]; first | rfl | (simp [*]; done))
end Go.Proofs.YtpnbbbhbbnemlaaGreatDoor
namespace Go.Proofs.YtpnbbbhbbnemlaaGreatDoor
open Go.RowKit
open SemP
set_option linter.unusedVariables false
set_option linter.unusedSimpArgs false
set_option maxRecDepth 100000
theorem toL_inj {s t : ByteArray} (e : s.toList = t.toList) : s = t := by
  rw [ByteArray.toList_eq, ByteArray.toList_eq] at e
  cases s; cases t
  simp at e
  congr 1
def verEq (a b c : Int) (s : ByteArray) (a' b' c' : Int) (s' : ByteArray) : Bool := decide (a = a' ∧ b = b' ∧ c = c' ∧ s = s')
theorem verEq_false {a b c a' b' c' : Int} {s s' : ByteArray} (h : ¬ (a = a' ∧ b = b' ∧ c = c' ∧ s = s')) : verEq a b c s a' b' c' s' = false := decide_eq_false h
theorem verEq_true (a b c : Int) (s : ByteArray) : verEq a b c s a b c s = true := decide_eq_true ⟨rfl, rfl, rfl, rfl⟩
theorem eqVer (w : World) (a b c : Int) (s : ByteArray) (a' b' c' : Int) (s' : ByteArray) : (Op.equalIn 10000 69 (.agg #[.int .i64 a, .int .i64 b, .int .i64 c, .string s]) (.agg #[.int .i64 a', .int .i64 b', .int .i64 c', .string s'])).run Tryz.prog w = .ok (verEq a b c s a' b' c' s') w := by
  unfold verEq
  rw [show (10000 : Nat) = 9999 + 1 from rfl]
  go_simp
  by_cases h1 : a = a'
  · by_cases h2 : b = b'
    · by_cases h3 : c = c'
      · by_cases h4 : s = s'
        · subst h1 h2 h3 h4; simp
        · have h5 : s.toList ≠ s'.toList := fun e => h4 (toL_inj e)
          simp [h1, h2, h3, h4, h5]
      · simp [h1, h2, h3]
    · simp [h1, h2]
  · simp [h1]
end Go.Proofs.YtpnbbbhbbnemlaaGreatDoor
namespace SemP
open Go.Lib
theorem pieces_append (c : UInt8) : ∀ (p m : Str), pieces c (p ++ c :: m) = pieces c p ++ pieces c m := by
  intro p m
  induction p with
  | nil => simp [pieces]
  | cons b l ih =>
    rw [List.cons_append]
    by_cases h : b = c
    · rw [show pieces c (b :: (l ++ c :: m)) = [] :: pieces c (l ++ c :: m) from by rw [pieces, if_pos h], show pieces c (b :: l) = [] :: pieces c l from by rw [pieces, if_pos h], ih]
      rfl
    · cases hp : pieces c l with
      | nil => exact absurd hp (pieces_ne c l)
      | cons q qs =>
        rw [pieces_step h hp]
        rw [hp] at ih
        rw [pieces_step h ih]
        rfl
theorem rowC_more {α : Type} {c : α → α → Int} (h : ∀ a, c a a = 0) : ∀ (l r : List α), r ≠ [] → rowC c l (l ++ r) = -1 := by
  intro l r hr
  induction l with
  | nil => cases r with
    | nil => exact absurd rfl hr
    | cons x r => rfl
  | cons x l ih =>
    show orI (c x x) (rowC c l (l ++ r)) = -1
    rw [h, orI_zero, ih]
theorem cmpPre_more {p m : Str} (hp : p ≠ []) : cmpPre p (p ++ 46 :: m) = -1 := by
  unfold cmpPre
  have h1 : p ≠ p ++ 46 :: m := fun e => by
    have := congrArg List.length e
    simp at this
  rw [if_neg h1, if_neg hp, if_neg (by simp), pieces_append]
  exact rowC_more cmpMarks_tot.refl _ _ (pieces_ne _ _)
theorem cmpPre_bare {p : Str} (hp : p ≠ []) : cmpPre p [] = -1 := by
  unfold cmpPre; rw [if_neg hp, if_neg hp, if_pos rfl]
theorem cmpV_pre {a b c : Int} {p q : Str} (h : cmpPre p q = -1) : cmpV ⟨a, b, c, p⟩ ⟨a, b, c, q⟩ = -1 := by
  unfold cmpV; simp only; rw [cmp_same, cmp_same, cmp_same, h]; rfl
theorem cmpPre_same (p : Str) : cmpPre p p = 0 := by unfold cmpPre; rw [if_pos rfl]
theorem cmpV_low {a b c a' b' c' : Int} {p q : Str} (h : cmpV ⟨a, b, c, []⟩ ⟨a', b', c', []⟩ = -1) : cmpV ⟨a, b, c, p⟩ ⟨a', b', c', q⟩ = -1 := by
  unfold cmpV at h ⊢
  simp only [cmpPre_same] at h ⊢
  by_cases h1 : compareInt a a' = 0
  · rw [h1, orI_zero] at h ⊢
    by_cases h2 : compareInt b b' = 0
    · rw [h2, orI_zero] at h ⊢
      by_cases h3 : compareInt c c' = 0
      · rw [h3] at h; exact absurd h (by decide)
      · rw [orI_ne h3] at h ⊢; exact h
    · rw [orI_ne h2] at h ⊢; exact h
  · rw [orI_ne h1] at h ⊢; exact h
end SemP
namespace Go.Proofs.YtpnbbbhbbnemlaaGreatDoor
open Go.RowKit
open SemP
/-- Several blocks, each with what it bears. -/
def BoxesAt (l : List (Nat × Obj)) (W : World) : Prop := ∀ x ∈ l, x.1 < W.heap.size ∧ W.heap[x.1]? = some x.2
theorem BoxesAt.below {l : List (Nat × Obj)} {W W' : World} (h : BoxesAt l W) (hb : Below W.heap.size W W') : BoxesAt l W' := fun x hx => ⟨Nat.lt_of_lt_of_le (h x hx).1 hb.size, (hb.block _ (h x hx).1).trans (h x hx).2⟩
theorem BoxesAt.push {l : List (Nat × Obj)} {W : World} (h : BoxesAt l W) (o : Obj) : BoxesAt ((W.heap.size, o) :: l) (W.alloc o) := by
  intro x hx
  rcases List.mem_cons.1 hx with rfl | hx
  · exact ⟨by simp, World.alloc_heap_new _ _⟩
  · exact ⟨by have := (h x hx).1; simp; omega, (Below.heap_alloc _ _ _ (h x hx).1).trans (h x hx).2⟩
theorem BoxesAt.get {l : List (Nat × Obj)} {W : World} (h : BoxesAt l W) (g : Nat) (o : Obj) (hm : (g, o) ∈ l) : W.heap[g]? = some o := (h _ hm).2
theorem BoxesAt.nil (W : World) : BoxesAt [] W := fun x hx => by cases hx
end Go.Proofs.YtpnbbbhbbnemlaaGreatDoor
namespace Go.Proofs.YtpnbbbhbbnemlaaGreatDoor
open Go.RowKit
open SemP
set_option linter.unusedVariables false
set_option linter.unusedSimpArgs false
set_option maxRecDepth 100000

def refParseR : Option Ver → Value
  | some v => .tuple #[verV v.major v.minor v.patch (mk v.pre), .bool true]
  | none => .tuple #[verV 0 0 0 ⟨#[]⟩, .bool false]
theorem isE (x : ByteArray) (b : Bool) (h : (bs x).isEmpty = b) : x.toList.isEmpty = b := by rw [ByteArray.toList_eq]; exact h
theorem bs_tail (s : ByteArray) (k : Nat) : bs (s.extract k s.size) = (bs s).drop k := by
  rw [bs_extract, List.take_of_length_le (by rw [List.length_drop, show (bs s).length = s.size from (Lib.size_eq s).symm]; omega)]
theorem bs_head (s : ByteArray) (e : Nat) : bs (s.extract 0 e) = (bs s).take e := by
  rw [bs_extract]; simp
theorem mk_bs (s : ByteArray) : mk (bs s) = s := by cases s; rfl
theorem parse3_len {c p : Str} (h : (pieces 46 c).length ≠ 3) : parse3 c p = none := by
  unfold parse3
  split
  · next e => rw [e] at h; exact absurd rfl h
  · rfl
theorem len3 {α : Type} {l : List α} (h : l.length = 3) : ∃ x y z, l = [x, y, z] := by
  match l, h with
  | [x, y, z], _ => exact ⟨x, y, z, rfl⟩
set_option maxHeartbeats 4000000 in
theorem RefParse_any (s : ByteArray) (w : World) (hs : s.size ≤ 1000000000000) :
    Calls Tryz.prog 74 #[.string s] w fun e w' => e = .returned (refParseR (parseV (bs s))) ∧ Below w.heap.size w w' := by
  have HZ : Hid (s.size = (bs s).length) := Lib.hid (Lib.size_eq s)
  have hb0 : Below w.heap.size w (w.alloc (refC 0 0 0 ⟨#[]⟩)) := (Below.refl _ w).alloc (Nat.le_refl _) _
  have hA : (w.alloc (refC 0 0 0 ⟨#[]⟩)).heap[w.heap.size]? = some (refC 0 0 0 ⟨#[]⟩) := World.alloc_heap_new _ _
  obtain ⟨W0, hW0⟩ : ∃ W0, w.alloc (refC 0 0 0 ⟨#[]⟩) = W0 := ⟨_, rfl⟩
  have hz0 : W0.heap.size = w.heap.size + 1 := by rw [← hW0]; simp
  rw [hW0] at hb0 hA
  have HA := Lib.hid hA
  have HB0 := Lib.hid hb0
  have HW0 := Lib.hid hW0
  have HSET : Hid (∀ (W : World) (u0 u1 u2 u3 : Value), Below w.heap.size w W → Below w.heap.size w ((((W.setCell ⟨w.heap.size, 0, none⟩ u0).setCell ⟨w.heap.size, 1, none⟩ u1).setCell ⟨w.heap.size, 2, none⟩ u2).setCell ⟨w.heap.size, 3, none⟩ u3)) := Lib.hid (fun W u0 u1 u2 u3 h => (((h.setCell (p := ⟨w.heap.size, 0, none⟩) (by simp) _).setCell (p := ⟨w.heap.size, 1, none⟩) (by simp) _).setCell (p := ⟨w.heap.size, 2, none⟩) (by simp) _).setCell (p := ⟨w.heap.size, 3, none⟩) (by simp) _)
  clear hA hb0 hW0
  have hsub : IntKind.i64.wrap ((s.size : Int) - 1) = (s.size : Int) - 1 := IntWalk.i64_in _ (by omega)
  go_enter Tryz.func74, Tryz.ntmps74
  go_wp2
  try rw [show w.alloc (.cells #[.int .i64 0, .int .i64 0, .int .i64 0, .string ⟨#[]⟩] 74) = W0 from HW0.out]
  go_loopw [4, 5, 6] (fun v4 v5 v6 wr => ∃ (j e : Nat) (pb : ByteArray), v4 = .int .i64 (e : Int) ∧ v5 = .string pb ∧ v6 = .int .i64 ((j : Int) - 1) ∧ Hid (DashAt (bs s) j e (bs pb)) ∧ Hid (j ≤ s.size) ∧ Hid (pb.size ≤ s.size) ∧ wr = W0) (fun _ _ v _ => (intOf v + 1).toNat)
  case atStart => exact ⟨s.size, s.size, ⟨#[]⟩, rfl, rfl, rfl, Lib.hid (by rw [HZ.out]; exact DashAt.start _), Lib.hid (Nat.le_refl _), Lib.hid (Nat.zero_le _), rfl⟩
  case round =>
    obtain ⟨j, e, pb, rfl, rfl, rfl, HD, HJ, HPS, rfl⟩ := hrel
    cases j with
    | succ k =>
      have hk : ((k + 1 : Nat) : Int) - 1 = (k : Int) := by omega
      rw [hk]
      have hlt : k < s.size := by have := HJ.out; omega
      have hadd : IntKind.i64.wrap ((k : Int) + 1) = ((k + 1 : Nat) : Int) := by rw [IntWalk.i64_in _ (by omega)]; omega
      have hsub2 : IntKind.i64.wrap ((k : Int) - 1) = (k : Int) - 1 := IntWalk.i64_in _ (by omega)
      have HLI : Hid (k < (bs s).length) := Lib.hid (by rw [← HZ.out]; exact hlt)
      have hk1 : k + 1 ≤ s.size := hlt
      by_cases hq : (bs s).getD k 0 = 45
      · have HE : Hid ((bs s).getD k 0 = 45) := Lib.hid hq
        have hqe : ((s[k].toNat : Int) == (45 : Int)) = true := eq_ints _ 45 (at_eq hlt HE.out)
        clear hq
        cases hee : ((bs s).drop (k + 1)).isEmpty with
        | true =>
          have hse : (s.extract (k + 1) s.size).toList.isEmpty = true := isE _ _ (by rw [bs_tail]; exact hee)
          have HN : Hid (parseV (bs s) = none) := Lib.hid (by
            have h1 := List.isEmpty_iff.1 hee
            have h2 : (bs s).length ≤ k + 1 := by
              have h9 := congrArg List.length h1; rw [List.length_drop, List.length_nil] at h9; omega
            have h3 := HLI.out
            exact parse_trail (bs s) (by omega) (by rw [show (bs s).length - 1 = k by omega]; exact HE.out))
          obtain ⟨y0, y1, y2, y3⟩ := cells4 HA.out
          obtain ⟨f0, f1, f2, f3⟩ := froz4 HA.out
          clear hee
          go_wp2
          refine bodyPost_ret (v := .tuple #[verV 0 0 0 ⟨#[]⟩, .bool false]) (by simp [results, Tryz.results74, go_sem, y0, y1, y2, y3]) rfl ⟨by rw [HN.out]; rfl, HSET.out _ _ _ _ _ HB0.out⟩
        | false =>
          have hse : (s.extract (k + 1) s.size).toList.isEmpty = false := isE _ _ (by rw [bs_tail]; exact hee)
          have HD2 : Hid (DashAt (bs s) k k (bs (s.extract (k + 1) s.size))) := Lib.hid (by
            rw [bs_tail]; exact HD.out.hit HE.out (fun e => by rw [e] at hee; cases hee))
          clear hee
          go_wp2
          go_roundw
          case rel => exact ⟨k, k, _, rfl, rfl, rfl, HD2, Lib.hid (by omega), Lib.hid (by simp), trivial⟩
          case measure => simp [intOf]
      · have HE : Hid ((bs s).getD k 0 ≠ 45) := Lib.hid hq
        have hqe : ((s[k].toNat : Int) == (45 : Int)) = false := ne_ints _ 45 (at_ne hlt HE.out)
        have HD2 : Hid (DashAt (bs s) k e (bs pb)) := Lib.hid (HD.out.skip HE.out)
        clear hq
        go_wp2
        go_roundw
        case rel => exact ⟨k, e, pb, rfl, rfl, rfl, HD2, Lib.hid (by omega), HPS, trivial⟩
        case measure => simp [intOf]
    | zero =>
      rw [show ((0 : Nat) : Int) - 1 = -1 from rfl]
      have hel : e ≤ s.size := by rw [HZ.out]; exact HD.out.le
      have HCUT := Lib.hid (Cut_any (s.extract 0 e) 46 wr (by simp; omega))
      have HF : Hid (parseV (bs s) = if ((bs pb).isEmpty || rightPre (bs pb)) = true then parse3 (bs (s.extract 0 e)) (bs pb) else none) := Lib.hid (by rw [bs_head]; exact HD.out.fin)
      go_wp2_with fail
      refine HCUT.out.mono ?_
      rintro e2 W1 ⟨v, rfl, ho, h1⟩
      have HO := Lib.hid ho
      have hA1 := (h1.block _ (show w.heap.size < wr.heap.size by omega)).trans HA.out
      have HA1 := Lib.hid hA1
      have HB1 : Hid (Below w.heap.size w W1) := Lib.hid (HB0.out.trans (h1.mono (by omega)))
      have hz1 : w.heap.size + 1 ≤ W1.heap.size := by have := h1.size; omega
      clear ho h1 HCUT hA1
      have HNE : Hid (0 < (pieces 46 (bs (s.extract 0 e))).length) := Lib.hid (List.length_pos_iff.2 (pieces_ne _ _))
      obtain ⟨g, c, rfl, _, hgl⟩ := HO.out.form HNE.out
      obtain ⟨n, hn⟩ : ∃ n, (pieces 46 (bs (s.extract 0 e))).length = n := ⟨_, rfl⟩
      have HN := Lib.hid hn
      rw [hn] at HO
      rw [hn]
      clear hn
      by_cases h3 : n = 3
      · subst h3
        obtain ⟨x, y, z, hxyz⟩ := len3 HN.out
        rw [hxyz] at HO
        have HXYZ := Lib.hid hxyz
        have HPRE := Lib.hid (Pre_any pb W1 (by have := HPS.out; omega))
        clear hxyz
        go_wp2_with fail
        refine HPRE.out.mono ?_
        rintro e3 W2 ⟨rfl, h2⟩
        have hA2 := (h2.block _ (show w.heap.size < W1.heap.size by omega)).trans HA1.out
        obtain ⟨y0, y1, y2, y3⟩ := cells4 hA2
        obtain ⟨f0, f1, f2, f3⟩ := froz4 hA2
        have HB2 : Hid (Below w.heap.size w W2) := Lib.hid (HB1.out.trans (h2.mono (by omega)))
        have HO2 := HO.out.kept h2
        have hc0 : W2.cell? ⟨g, 0, none⟩ = some (strc x) := HO2.cell (by decide)
        have hc1 : W2.cell? ⟨g, 1, none⟩ = some (strc y) := HO2.cell (by decide)
        have hc2 : W2.cell? ⟨g, 2, none⟩ = some (strc z) := HO2.cell (by decide)
        clear h2 hA2 HPRE HO2
        cases hp : ((bs pb).isEmpty || rightPre (bs pb)) with
        | false =>
          have HV : Hid (parseV (bs s) = none) := Lib.hid (by rw [HF.out, if_neg]; rw [hp]; simp)
          clear hp
          go_wp2
          refine bodyPost_ret (v := .tuple #[verV 0 0 0 ⟨#[]⟩, .bool false]) (by simp [results, Tryz.results74, go_sem, y0, y1, y2, y3]) rfl ⟨by rw [HV.out]; rfl, HSET.out _ _ _ _ _ HB2.out⟩
        | true =>
          have HV : Hid (parseV (bs s) = match num x, num y, num z with
              | some a, some b, some d => some ⟨a, b, d, bs pb⟩
              | _, _, _ => none) := Lib.hid (by rw [HF.out, if_pos hp]; unfold parse3; rw [HXYZ.out]; rfl)
          have HX := Lib.hid (Number_any (mk x) W2)
          have HY := Lib.hid (Number_any (mk y) W2)
          have HZ3 := Lib.hid (Number_any (mk z) W2)
          clear hp
          obtain ⟨nx, okx, hnx, hx⟩ := numV_cases x
          obtain ⟨ny, oky, hny, hy⟩ := numV_cases y
          obtain ⟨nz, okz, hnz, hz⟩ := numV_cases z
          have HNX : Hid (numV (bs (mk x)) = _) := Lib.hid hnx
          have HNY : Hid (numV (bs (mk y)) = _) := Lib.hid hny
          have HNZ : Hid (numV (bs (mk z)) = _) := Lib.hid hnz
          have HXC := Lib.hid hx
          have HYC := Lib.hid hy
          have HZC := Lib.hid hz
          clear hnx hny hnz hx hy hz
          go_wp2_with fail
          refine HX.out.mono ?_
          rintro e4 w4 ⟨rfl, rfl⟩
          rw [HNX.out]
          go_wp2_with fail
          refine HY.out.mono ?_
          rintro e4 w4 ⟨rfl, rfl⟩
          rw [HNY.out]
          go_wp2_with fail
          refine HZ3.out.mono ?_
          rintro e4 w4 ⟨rfl, rfl⟩
          rw [HNZ.out]
          cases okx with
          | false =>
            have HV2 : Hid (parseV (bs s) = none) := Lib.hid (by
              rw [HV.out]
              rcases HXC.out with ⟨h, _⟩ | ⟨_, h⟩
              · cases h
              · rw [h])
            go_wp2
            refine bodyPost_ret (v := .tuple #[verV 0 0 0 ⟨#[]⟩, .bool false]) (by simp [results, Tryz.results74, go_sem, y0, y1, y2, y3]) rfl ⟨by rw [HV2.out]; rfl, HSET.out _ _ _ _ _ HB2.out⟩
          | true =>
            cases oky with
            | false =>
              have HV2 : Hid (parseV (bs s) = none) := Lib.hid (by
                rw [HV.out]
                rcases HYC.out with ⟨h, _⟩ | ⟨_, h⟩
                · cases h
                · rw [h]; cases num x <;> rfl)
              go_wp2
              refine bodyPost_ret (v := .tuple #[verV 0 0 0 ⟨#[]⟩, .bool false]) (by simp [results, Tryz.results74, go_sem, y0, y1, y2, y3]) rfl ⟨by rw [HV2.out]; rfl, HSET.out _ _ _ _ _ HB2.out⟩
            | true =>
              cases okz with
              | false =>
                have HV2 : Hid (parseV (bs s) = none) := Lib.hid (by
                  rw [HV.out]
                  rcases HZC.out with ⟨h, _⟩ | ⟨_, h⟩
                  · cases h
                  · rw [h]; cases num x <;> cases num y <;> rfl)
                go_wp2
                refine bodyPost_ret (v := .tuple #[verV 0 0 0 ⟨#[]⟩, .bool false]) (by simp [results, Tryz.results74, go_sem, y0, y1, y2, y3]) rfl ⟨by rw [HV2.out]; rfl, HSET.out _ _ _ _ _ HB2.out⟩
              | true =>
                have HV2 : Hid (parseV (bs s) = some ⟨nx, ny, nz, bs pb⟩) := Lib.hid (by
                  rw [HV.out]
                  rcases HXC.out with ⟨_, k1, h1, rfl⟩ | ⟨h, _⟩
                  · rcases HYC.out with ⟨_, k2, h2, rfl⟩ | ⟨h, _⟩
                    · rcases HZC.out with ⟨_, k3, h3, rfl⟩ | ⟨h, _⟩
                      · rw [h1, h2, h3]
                      · cases h
                    · cases h
                  · cases h)
                have HMB : Hid (refParseR (some ⟨nx, ny, nz, bs pb⟩) = .tuple #[verV nx ny nz pb, .bool true]) := Lib.hid (by show Value.tuple #[verV nx ny nz (mk (bs pb)), .bool true] = _; rw [mk_bs])
                clear HX HY HZ3 HXC HYC HZC
                go_wp2
                refine bodyPost_ret (v := .tuple #[verV nx ny nz pb, .bool true]) (by simp [results, Tryz.results74, go_sem, y0, y1, y2, y3]) rfl ⟨by rw [HV2.out, HMB.out], HSET.out _ _ _ _ _ HB2.out⟩
      · have d3 : ((n : Int) == 3) = false := by rw [beq_eq_false_iff_ne]; omega
        have HV : Hid (parseV (bs s) = none) := Lib.hid (by rw [HF.out, parse3_len (by rw [HN.out]; exact h3)]; split <;> rfl)
        obtain ⟨y0, y1, y2, y3⟩ := cells4 HA1.out
        obtain ⟨f0, f1, f2, f3⟩ := froz4 HA1.out
        go_wp2
        refine bodyPost_ret (v := .tuple #[verV 0 0 0 ⟨#[]⟩, .bool false]) (by simp [results, Tryz.results74, go_sem, y0, y1, y2, y3]) rfl ⟨by rw [HV.out]; rfl, HSET.out _ _ _ _ _ HB1.out⟩
end Go.Proofs.YtpnbbbhbbnemlaaGreatDoor
