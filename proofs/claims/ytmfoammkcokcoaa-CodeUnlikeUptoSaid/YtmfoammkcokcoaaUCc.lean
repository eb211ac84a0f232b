/-
  CodeCuts, over this translation.
-/
import Derived.Test.YtmfoammkcokcoaaUCb
import Derived.Test.YtmfoammkcokcoaaUCM
import Derived.Test.YtmfoammkcokcoaaUJo
import Derived.Test.YtmfoammkcokcoaaUMq
namespace Go.Proofs.Ytmfoammkcokcoaa
open Go.RowKit
open ByteP CodeP
set_option linter.unusedVariables false
set_option maxRecDepth 10000
theorem SmRl.sh {r : Rl} (h : SmRl r) : ShRl r := ⟨by have := h.2.1; omega, by have := h.1; omega, fun p hp => (h.2.2 p hp).sh⟩
theorem SmSv.sh {s : Sv} (h : SmSv s) : ShSv s := ⟨by have := h.1; omega, by have := h.2.1; omega, fun r hr => (h.2.2 r hr).sh⟩
theorem SmCat.sh {c : List Sv} (h : SmCat c) : ShCat c := ⟨by have := h.1; omega, fun s hs => (h.2 s hs).sh⟩
theorem fl_le {α : Type} {e : α → List Int} {K : Nat} : ∀ {l : List α}, (∀ x ∈ l, (e x).length ≤ K) → (fl e l).length ≤ K * l.length
  | [], _ => by simp [fl]
  | x :: l, h => by
    have h1 := h x (by simp)
    have h2 := fl_le (e := e) (K := K) (l := l) (fun y hy => h y (by simp [hy]))
    rw [fl_cons, List.length_append, List.length_cons, Nat.mul_add]
    omega
theorem rlO_le {r : Rl} (h : SmRl r) : (rlO r).length ≤ 300000 := by
  have h1 : (fl pinO r.2.2).length ≤ 20000 * r.2.2.length := outN_le h.2.2
  have h2 := h.1
  have h3 := verO_len r.1.1 r.1.2.1 r.1.2.2.1 r.1.2.2.2 (by have := h.2.1; omega)
  have h4 := outI_len r.2.1
  have h5 := enc_small (n := r.2.2.length) (by omega)
  have h6 := h.2.1
  have e : (rlO r).length = (verOt r.1).length + ((outI r.2.1).length + (lsE pinO r.2.2).length) := by unfold rlO; rw [List.length_append, List.length_append]
  rw [e, lsE_len]
  unfold verOt
  omega
theorem svO_le {s : Sv} (h : SmSv s) : (svO s).length ≤ 5000000 := by
  have h1 := fl_le (e := rlO) (K := 300000) (fun r hr => rlO_le (h.2.2 r hr))
  have h2 := h.2.1
  have h3 := h.1
  have h5 := enc_small (n := s.2.length) (by omega)
  have h6 := enc_small (n := s.1.size) (by omega)
  have e : (svO s).length = (strO s.1).length + (lsE rlO s.2).length := by unfold svO; rw [List.length_append]
  have e4 : (strO s.1).length = (enc s.1.size).length + s.1.size := by unfold strO; rw [List.length_append, bsS_len]
  rw [e, lsE_len, e4]
  omega
theorem catO_le {c : List Sv} (h : SmCat c) : (fl svO c).length ≤ 400000000 ∧ (catO c).length ≤ 900000000 ∧ 1 ≤ (catO c).length := by
  have h1 := fl_le (e := svO) (K := 5000000) (fun s hs => svO_le (h.2 s hs))
  have h2 := h.1
  have h5 := enc_small (n := c.length) (by omega)
  have h6 := enc_pos c.length
  have e : (catO c).length = (enc c.length).length + (fl svO c).length := lsE_len svO c
  omega
theorem capA_take {A : Option Addr} {n c q : Nat} (h : CapA A n c) (hq : q ≤ n) : CapA A q c := by
  rcases h with ⟨h1, h2, h3⟩ | ⟨x, h1, h2, h3⟩
  · exact .inl ⟨h1, by omega, h3⟩
  · exact .inr ⟨x, h1, by omega, h3⟩
set_option maxHeartbeats 8000000 in
theorem law_cuts {w : World} {c1 n c : Nat} {A A1 : Option Addr} {l : List Sv} {bs : List Int} (at_ : Int)
    (hr : RdG 2 svI w (fun b => w.heap.size ≤ b) A1 l.length l) (h1 : -9223372036854775808 ≤ at_) (h2 : at_ ≤ 9223372036854775807)
    (hm : RdY w w.heap.size A n bs) (hb : Bytes bs) (hn0 : n ≤ 9223372036854775807) :
    Calls Try.prog 7 #[.agg #[.slice A1 l.length c1], .int .i64 at_, .slice A n c] w fun e w' => e = .returned (.bool true) ∧ Below w.heap.size w w' := by
  have HR := Lib.hid hr
  have HM := Lib.hid hm
  have HBY := Lib.hid hb
  have HLL := Lib.hid hm.len
  have HB0 : Hid (Below w.heap.size w (w.alloc (.cells #[.slice A1 l.length c1] 24))) := Lib.hid ((Below.refl _ w).alloc (Nat.le_refl _) _)
  clear hr hm hb
  go_enter Try.func7, Try.ntmps7
  go_wp2_with fail
  refine (anchorE_any _).mono ?_
  rintro e w1 ⟨rfl, hb1⟩
  have HB1 : Hid (Below w.heap.size w w1) := Lib.hid (HB0.out.trans (hb1.mono (by simp)))
  have hk1 : w1.heap[w.heap.size]? = some (.cells #[.slice A1 l.length c1] 24 (0, 0)) := (hb1.block w.heap.size (by simp)).trans (heap_alloc_new w _)
  obtain ⟨x0, _⟩ := row1f hk1
  have K1 := Lib.hid hk1
  have hz1 : w.heap.size < w1.heap.size := heapE_lt hk1
  have HMC := Lib.hid (catM_any (c := c1) (HR.out.below sv_turns HB1.out) (by omega))
  clear hb1 hk1
  go_wp2_with fail
  refine HMC.out.mono ?_
  rintro e z1 ⟨A', n', c', ok, rfl, hbz, hit⟩
  obtain ⟨w2, HW2E⟩ : ∃ w2, Hid (w2 = z1.alloc (.cells #[.slice A' n' c'] 28)) := ⟨_, Lib.hid rfl⟩
  have hzw2 : w2.heap.size = z1.heap.size + 1 := by rw [HW2E.out]; simp
  have hbz2 : Below z1.heap.size z1 w2 := by rw [HW2E.out]; exact (Below.refl _ z1).alloc (Nat.le_refl _) _
  have hbw12 : Below w1.heap.size w1 w2 := hbz.trans (hbz2.mono hbz.size)
  have HBW2 : Hid (Below w.heap.size w w2) := Lib.hid (HB1.out.trans (hbw12.mono (by omega)))
  have K2 : Hid (w2.heap[w.heap.size]? = _) := Lib.hid ((hbw12.block w.heap.size hz1).trans K1.out)
  have HIT := Lib.hid (fun h => (hit h).1)
  clear hbz hit hbz2 hbw12 HMC x0 hzw2
  go_upto_region 4 with fail
  change Code.wp _ _ _ _ (z1.alloc (.cells #[.slice A' n' c'] 28))
  rw [← HW2E.out]
  cases ok with
  | false =>
    go_wp2
    go_ret
    exact ⟨rfl, HBW2.out⟩
  | true =>
    have HSM := Lib.hid (HIT.out rfl)
    clear HIT
    by_cases ha0 : at_ < 0
    · have d1 : decide (at_ < 0) = true := decide_eq_true ha0
      go_wp2
      go_ret
      exact ⟨rfl, HBW2.out⟩
    have d1 : decide (at_ < 0) = false := decide_eq_false ha0
    by_cases hn1 : n < 1
    · have d2 : decide ((n : Int) < 1) = true := by simp; omega
      go_wp2
      go_ret
      exact ⟨rfl, HBW2.out⟩
    have d2 : decide ((n : Int) < 1) = false := by simp; omega
    by_cases hn5 : 50 < n
    · have d3 : decide ((50 : Int) < (n : Int)) = true := by simp; omega
      go_wp2
      go_ret
      exact ⟨rfl, HBW2.out⟩
    have d3 : decide ((50 : Int) < (n : Int)) = false := by simp; omega
    have HLN := Lib.hid (catO_le HSM.out)
    have hzr := HBW2.out.size
    obtain ⟨p0, _⟩ := row1f K2.out
    have HPP := Lib.hid (putCat_any (c1 := c1) (HR.out.below sv_turns HBW2.out) hzr HSM.out.sh HLN.out.1)
    go_wp2_with fail
    refine HPP.out.mono ?_
    rintro e w4 ⟨⟨A5, n5, c5, e5, rfl, hend⟩, hb4⟩
    have HEND := Lib.hid hend
    have HBW4 : Hid (Below w.heap.size w w4) := Lib.hid (HBW2.out.trans (hb4.mono hzr))
    clear hend hb4 HPP p0
    cases hbad : badSv l with
    | true =>
      have he := HEND.out
      rw [hbad] at he
      obtain ⟨e4, rfl⟩ := he.1 rfl
      injection e4 with e5 e6 e7
      subst e5 e6 e7
      clear he hbad
      go_wp2
      go_ret
      exact ⟨rfl, HBW4.out⟩
    | false =>
      have he := HEND.out
      rw [hbad] at he
      obtain ⟨rfl, hown⟩ := he.2 rfl
      have HWR := Lib.hid (shCat_ok hbad HSM.out.sh)
      obtain ⟨zs, HZS⟩ : ∃ zs, Hid (catO l = zs) := ⟨_, Lib.hid rfl⟩
      have HBZ : Hid (Bytes zs) := Lib.hid (by rw [← HZS.out]; exact cat_both.bytes _ HWR.out)
      have hzl : zs.length ≤ 900000000 := by rw [← HZS.out]; exact HLN.out.2.1
      have hzl1 : 1 ≤ zs.length := by rw [← HZS.out]; exact HLN.out.2.2
      obtain ⟨N, HZN⟩ : ∃ N, Hid (zs.length = N) := ⟨_, Lib.hid rfl⟩
      rw [HZS.out] at hown
      rw [HZN.out] at hown hzl hzl1
      obtain ⟨A5', c5', e4, _⟩ := OwnY.shape hown
      injection e4 with e5 e6 e7
      subst e5 e6 e7
      have HO5 := Lib.hid hown
      clear he hbad hown HEND
      obtain ⟨p, rfl⟩ : ∃ p : Nat, at_ = (p : Int) := ⟨at_.toNat, by omega⟩
      obtain ⟨q, HQ⟩ : ∃ q, Hid (p % n5 = q) := ⟨_, Lib.hid rfl⟩
      have hq : q < n5 := by rw [← HQ.out]; exact Nat.mod_lt _ (by omega)
      have hs1 := hslE (capA_own HO5.out) (q := q) (by omega)
      have HE13 : Hid (endP catP (zs.take q) = 13) := Lib.hid (by rw [← HZS.out]; exact endP_cut cat_both HWR.out (by rw [HZS.out, HZN.out]; exact hq))
      have HE12 : Hid (endP catP (zs ++ bs) = 12) := Lib.hid (by rw [← HZS.out]; exact endP_more cat_both HWR.out (by intro h; have := HLL.out; rw [h] at this; simp at this; omega))
      have HBT : Hid (Bytes (zs.take q)) := Lib.hid (fun i => by
        by_cases hi : i < (zs.take q).length
        · have h := HBZ.out i
          have e : ix zs i = ix (zs.take q) i := by
            unfold ix
            rw [List.getD_eq_getElem?_getD, List.getD_eq_getElem?_getD, List.getElem?_take, if_pos (by rw [List.length_take] at hi; omega)]
          rw [e] at h; exact h
        · have : ix (zs.take q) i = 0 := by unfold ix; simp only [List.getD]; rw [List.getElem?_eq_none (by omega)]; rfl
          omega)
      have HG1 := Lib.hid (getCat_any ((rdY_own HO5.out).head (Nat.le_of_lt hq)) (capA_take (capA_own HO5.out) (Nat.le_of_lt hq)) (Nat.le_refl _) HBT.out (by omega))
      rw [HE13.out] at HG1
      have hzne : ((n5 : Int) == 0) = false := beq_eq_false_iff_ne.2 (by omega)
      have hrem : (p : Int).tmod (n5 : Int) = (q : Int) := by rw [← HQ.out, ← Int.ofNat_tmod]
      go_wp2_with fail
      refine HG1.out.mono ?_
      rintro e w5 ⟨F1, m1, g1, rfl, hb5, hzz5, hyy5⟩
      clear hzz5 hyy5
      have HBW5 : Hid (Below w.heap.size w w5) := Lib.hid (HBW4.out.trans (hb5.mono HBW4.out.size))
      have HBA5 : Hid (Below w.heap.size w (w5.alloc (.cells #[.slice F1 m1 g1] 24))) := Lib.hid (HBW5.out.alloc (HBW5.out.size) _)
      have HO55 : Hid (OwnY (w5.alloc (.cells #[.slice F1 m1 g1] 24)) (w2.heap.size + 1 + 1) (.slice A5 n5 c5) n5 zs) := Lib.hid ((HO5.out.kept hb5).alloc _)
      have HJ := Lib.hid (refJoin_any (c := c5) (d := c) (rdY_own HO55.out) ((HM.out.below HBA5.out).more HBA5.out.size) (Nat.le_refl _) (by omega))
      clear hb5 HG1 hs1 hrem
      go_wp2_with fail
      refine HJ.out.mono ?_
      rintro e w6 ⟨v6, rfl, hown6, hb6⟩
      obtain ⟨A6, c6, rfl, hrd6⟩ := OwnY.shape hown6
      have HBW6 : Hid (Below w.heap.size w w6) := Lib.hid (HBA5.out.trans (hb6.mono HBA5.out.size))
      have HBJ : Hid (Bytes (zs ++ bs)) := Lib.hid (bytes_append HBZ.out HBY.out)
      have hlj : (zs ++ bs).length = n5 + n := by rw [List.length_append, HLL.out, HZN.out]
      have HG2 := Lib.hid (getCat_any hrd6 (capA_own hown6) (Nat.le_refl _) HBJ.out (by omega))
      rw [HE12.out] at HG2
      clear hown6 hrd6 hb6 hlj HJ
      go_wp2_with fail
      refine HG2.out.mono ?_
      rintro e w7 ⟨F2, m2, g2, rfl, hb7, hzz7, hyy7⟩
      clear hzz7 hyy7
      have HBW7 : Hid (Below w.heap.size w (w7.alloc (.cells #[.slice F2 m2 g2] 24))) := Lib.hid ((HBW6.out.trans (hb7.mono HBW6.out.size)).alloc (HBW6.out.trans (hb7.mono HBW6.out.size)).size _)
      clear hb7 HG2
      go_wp2
      go_ret
      exact ⟨rfl, HBW7.out⟩
end Go.Proofs.Ytmfoammkcokcoaa
