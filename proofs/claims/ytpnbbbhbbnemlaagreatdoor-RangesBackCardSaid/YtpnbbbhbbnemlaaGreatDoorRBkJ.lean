/-
  CONTRACTS: strings.Join of an own row; a comparison's text.
-/
import Derived.Test.YtpnbbbhbbnemlaaGreatDoorRBkP
import Derived.Lib.Join
namespace Go.Proofs.YtpnbbbhbbnemlaaGreatDoor
open Go.RowKit
open SemP
set_option linter.unusedSimpArgs false
set_option linter.unusedVariables false
set_option maxRecDepth 100000
theorem join_own {w : World} {base n : Nat} {v : Value} {xs : List Str} (h : OwnS w base v n xs) (hn : 0 < n) (sep : ByteArray) (hN : n ≤ 1000000) (hl : (Lib.join xs (bs sep)).length ≤ 1000000) :
    Calls Tryz.prog 29 #[v, .string sep] w fun e w' => e = .returned (.string (mk (Lib.join xs (bs sep)))) ∧ Below w.heap.size w w' := by
  have hlen := h.len
  have hlt : ∀ g, v.ownBlock = some g → g < w.heap.size := own_lt h
  rcases h.2 with ⟨_, h0⟩ | ⟨g, cap, cur, hv, hbg, hh, hnc, _⟩
  · omega
  · subst hv
    have e1 : (xs.map mk).map (fun x => x.data.toList) = xs := by
      rw [List.map_map]
      conv => rhs; rw [← List.map_id xs]
      exact List.map_congr_left (fun x _ => bs_mk x)
    have e2 : (xs.map mk).length = n := by rw [List.length_map, hlen]
    have hj := Tryz.strings_Join g 0 cap (xs.map mk) sep w (fun j x hx => by
      have hjn : j < n := by
        have := (List.getElem?_eq_some_iff.1 hx).1
        omega
      have hc := OwnS.cell (c := cap) (g := g) h hjn
      rw [Nat.zero_add, hc]
      have hjx : j < xs.length := by omega
      rw [List.getElem?_map, List.getElem?_eq_getElem hjx] at hx
      simp only [Option.map_some, Option.some.injEq] at hx
      rw [← hx]
      simp [List.getD, hjx]) (hlt g rfl) (by omega) (by omega) (by rw [e1]; have : (Lib.join xs sep.data.toList).length ≤ 1000000 := hl; omega)
    rw [e1, e2] at hj
    exact hj
theorem mk_app (x y : Str) : mk x ++ mk y = mk (x ++ y) := by
  apply toL_inj
  rw [ByteArray.toList_eq, ByteArray.toList_eq]
  show bs (mk x ++ mk y) = bs (mk (x ++ y))
  rw [bs_app, bs_mk, bs_mk, bs_mk]
theorem mk_len (x : Str) : (mk x).size = x.length := mk_size x
set_option maxHeartbeats 4000000 in
theorem ctext_any (op a b c : Int) (s : ByteArray) (w : World) (hr : CV.right ⟨op, a, b, c, s⟩ = true) (hs : s.size ≤ 1000000) (hg : SignsAt w) (hm : LenAt w) (h1 : 1 < w.heap.size) (hp : PowAt w) :
    Calls Tryz.prog 28 #[compV op a b c s] w fun e w' => e = .returned (.string (mk (textC ⟨op, a, b, c, s⟩))) ∧ Below w.heap.size w w' := by
  obtain ⟨W0, hW0⟩ : ∃ W0, w.alloc (compC op a b c s) = W0 := ⟨_, rfl⟩
  have hb0 : Below w.heap.size w W0 := by rw [← hW0]; exact (Below.refl _ w).alloc (Nat.le_refl _) _
  have hX : W0.heap[w.heap.size]? = some (compC op a b c s) := by rw [← hW0]; exact World.alloc_heap_new _ _
  have HM0 := Lib.hid (hm.below h1 hb0)
  have HG0 : Hid (SignsAt W0) := Lib.hid (hg.below hb0 (by omega))
  have HP0 : Hid (PowAt W0) := Lib.hid (hp.below hb0)
  have HB0 := Lib.hid hb0
  have HW0 := Lib.hid hW0
  obtain ⟨x0, x1, x2, x3, x4⟩ := cells5 hX
  have HX0 : Hid (∀ W1, Below W0.heap.size W0 W1 → W1.cell? ⟨w.heap.size, 0, none⟩ = some (.int .i64 op)) := Lib.hid (fun W1 h => (h.cell (p := ⟨w.heap.size, 0, none⟩) (by show w.heap.size < _; rw [← hW0]; simp)).trans x0)
  rcases cright_cases hr with hz | ⟨h1', h7, hv⟩
  · unfold zeroC at hz
    injection hz with z0 z1 z2 z3 z4
    subst z0 z1 z2 z3 z4
    have hc0 := HG0.out 0 (by omega)
    have HT : Hid (textC ⟨0, 0, 0, 0, ⟨#[]⟩⟩ = [42]) := Lib.hid text_zero
    have HBB : Hid (Below w.heap.size w (w.alloc (compC 0 0 0 0 ⟨#[]⟩))) := Lib.hid (by rw [hW0]; exact hb0)
    rw [← hW0] at x0 x1 x2 x3 x4 hc0
    simp only [compC] at x0 x1 x2 x3 x4 hc0
    clear hb0 hm hX hW0 hg hp hr
    go_enter Tryz.func28, Tryz.ntmps28
    go_wp2
    refine bodyPost_ret (results_tmp rfl _ _ _) rfl ⟨by rw [HT.out]; rfl, HBB.out⟩
  · obtain ⟨k, rfl⟩ : ∃ k : Nat, op = (k : Int) := ⟨op.toNat, by simp only at h1'; omega⟩
    have hk1 : 1 ≤ k := by simp only at h1'; omega
    have hk8 : k < 8 := by simp only at h7; omega
    have d0 : ((k : Int) == 0) = false := by rw [beq_eq_false_iff_ne]; omega
    have hv : Ver.right ⟨a, b, c, bs s⟩ = true := hv
    have htx := Text_any a b c s W0 hs HM0.out.1 HM0.out.2 HP0.out
    unfold textR at htx
    rw [if_pos hv] at htx
    have htl : (mk (Ver.text ⟨a, b, c, bs s⟩)).size ≤ 64 := by rw [mk_len]; exact textV_len hv
    have hsl : (mk (sg k)).size ≤ 2 := by rw [mk_len]; exact sg_len k hk8
    have he : mk (textC ⟨(k : Int), a, b, c, s⟩) = mk (sg k) ++ mk (Ver.text ⟨a, b, c, bs s⟩) := by
      rw [mk_app]; unfold textC
      rw [if_neg (by simp only; omega)]; rfl
    have hs8 : ∀ W1, Below W0.heap.size W0 W1 → W1.cell? ⟨0, k, none⟩ = some (.string (mk (sg k))) := fun W1 h => (HG0.out.below h (by have := HM0.out.2; omega)) k hk8
    generalize mk (Ver.text ⟨a, b, c, bs s⟩) = T at *
    generalize mk (sg k) = K at *
    have HE := Lib.hid he
    have HTX := Lib.hid htx
    have HS8 := Lib.hid hs8
    have hcA := fun (w : World) => run_string_add_sum (P := Tryz.prog) (w := w) K T (by omega)
    rw [← hW0] at x0 x1 x2 x3 x4
    simp only [compC] at x0 x1 x2 x3 x4
    clear hb0 hm hX hW0 hg hp hr hv htx h1' h7 he htl hsl hs8
    go_enter Tryz.func28, Tryz.ntmps28
    go_wp2_with fail
    try rw [show w.alloc (.cells #[.int .i64 (k : Int), .int .i64 a, .int .i64 b, .int .i64 c, .string s] 73) = W0 from HW0.out]
    refine HTX.out.mono ?_
    rintro e W1 ⟨rfl, hb⟩
    have HB1 : Hid (Below w.heap.size w W1) := Lib.hid (HB0.out.trans (hb.mono HB0.out.size))
    have y0 := HX0.out W1 hb
    have y8 := HS8.out W1 hb
    clear hb x0 x1 x2 x3 x4 HTX
    go_wp2
    refine bodyPost_ret (results_tmp rfl _ _ _) rfl ⟨by rw [HE.out]; rfl, HB1.out⟩
end Go.Proofs.YtpnbbbhbbnemlaaGreatDoor
