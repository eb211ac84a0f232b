/-
  CONTRACTS over this translation: slices.Backward of numbers, inside a fence.
-/
import Derived.Test.YticklaophgekeaaKInts
import Derived.RangeFuncNested
import Derived.RangeFuncBound
import Derived.RangeFuncCalls
import Derived.RangeFuncLeaves
import Derived.Shelf.Abstract
import Derived.Shelf.RegionOpen
import Derived.OwnWalkIn
import Derived.TacticsInMore
import Derived.LoopNIn
import Derived.LoopIn
namespace Go.Proofs.Yticklaophgekeaa
open Go.RowKit Go.Shelf
open ByteP
set_option linter.unusedVariables false
set_option maxRecDepth 100000
attribute [local go_sem] Oper.semAt_some

/-- What a round is handed: a place, and what stands there. -/
abbrev Bw (P : Int → Prop) := { p : Nat × Int // P p.2 }
abbrev bwv {P : Int → Prop} (l : List (Bw P)) : List Int := l.map (fun x => x.1.2)
theorem bwv_snoc {P : Int → Prop} (l : List (Bw P)) (x : Bw P) : bwv (l ++ [x]) = bwv l ++ [x.1.2] := by simp [bwv]
theorem drop_rev (xs : List Int) (q : Nat) (h : q < xs.length) : (xs.drop q).reverse = (xs.drop (q + 1)).reverse ++ [ix xs q] := by
  rw [List.drop_eq_getElem_cons h, List.reverse_cons]
  simp [ix, List.getD, h]
theorem backward_in (n : Nat) (A : Option Addr) (m c : Nat) (w : World) :
    CallsIn Fence.wide n Try.prog 50 #[.slice A m c] w fun e w' => e = .returned (.func (.func 59) #[] #[.pointer (some ⟨w.heap.size, 0, none⟩)]) ∧ w' = w.alloc (.cells #[.slice A m c] 31) := by
  refine callsIn_of_wp Try.func50 rfl trivial ?_ rfl
  simp only [Try.ntmps50, List.size_toArray, List.length_cons, List.length_nil, Nat.reduceAdd, Nat.reduceSub, Array.replicate_succ, Array.replicate_zero, List.push_toArray, List.append_toArray, List.nil_append, List.cons_append]
  gi_wp2
  go_ret
  exact ⟨rfl, rfl⟩
set_option maxHeartbeats 2000000 in
theorem backward_stops {P : Int → Prop} (n : Nat) (hn : 1 ≤ n) (Bn n₀ : Nat) (A : Option Addr) (m c : Nat) (xs : List Int) (w : World) (hP : ∀ i, i < xs.length → P (ix xs i)) (hb : w.cell? ⟨Bn, 0, none⟩ = some (.slice A m c)) (hR : Rd w n₀ A m xs) (hBn : Bn < n₀) (hn0 : n₀ ≤ w.heap.size) (hm : m ≤ 1099511627776) :
    SeqStopsK Fence.wide n Try.prog 59 #[.pointer (some ⟨Bn, 0, none⟩)] (fun x : Bw P => #[.int .i64 (x.1.1 : Int), .int .i64 x.1.2]) (Below n₀) (fun pre => bwv pre = xs.reverse) (fun pre => bwv pre <+: xs.reverse) m w := by
  intro l J Jx W hW hJ hJx hY h0
  have hWB : Below n₀ w W := hW.mono hn0
  have hc0 : W.cell? ⟨Bn, 0, none⟩ = some (.slice A m c) := (hWB.cell hBn).trans hb
  have HR0 : Hid (Rd W n₀ A m xs) := Lib.hid (hR.below hWB)
  have HLX : Hid (xs.length = m) := Lib.hid hR.1
  have HP := Lib.hid hP
  have HC0 := Lib.hid hc0
  clear hR hP
  refine callsIn_of_wp Try.func59 rfl trivial ?_ rfl
  simp only [Try.ntmps59, List.size_toArray, List.length_cons, List.length_nil, Nat.reduceAdd, Nat.reduceSub, Array.replicate_succ, Array.replicate_zero, List.push_toArray, List.append_toArray, List.nil_append, List.cons_append]
  have hw0 : IntKind.i64.wrap ((m : Int) - 1) = (m : Int) - 1 := IntWalk.i64_in _ (by omega)
  gi_wp2
  gi_loopw [3] (fun p wr => ∃ (pre : List (Bw P)) (r : Nat), r ≤ m ∧ p = .int .i64 ((r : Int) - 1) ∧ Hid (wr.cell? ⟨Bn, 0, none⟩ = some (.slice A m c)) ∧ Hid (Rd wr n₀ A m xs) ∧ J pre wr ∧ Hid (bwv pre = (xs.drop r).reverse) ∧ Hid (pre.length + r = m))
    (fun p _ => (intOf p + 1).toNat)
  case atStart => exact ⟨[], m, Nat.le_refl _, rfl, HC0, HR0, h0, Lib.hid (by rw [List.drop_of_length_le (by rw [HLX.out]; exact Nat.le_refl _)]; rfl), Lib.hid (Nat.zero_add _)⟩
  case round =>
    obtain ⟨pre, r, hr, rfl, HC, HRD, hJs, HV, HLN⟩ := hrel
    rcases Nat.eq_zero_or_pos r with hr0 | hr0
    · subst hr0
      have hd : decide (((0 : Nat) : Int) - 1 ≥ 0) = false := by simp
      gi_wp2
      go_end0
      exact ⟨⟨_, rfl⟩, .inl ⟨pre, by have := HV.out; simpa using this, hJs⟩⟩
    · obtain ⟨q, rfl⟩ : ∃ q, r = q + 1 := ⟨r - 1, by omega⟩
      have eq : ((q + 1 : Nat) : Int) - 1 = (q : Int) := by omega
      rw [eq]
      obtain ⟨b, off, rfl, hbl, hcell⟩ := HRD.out.at_ (k := q) (by omega)
      have hcn := HC.out
      have hq0 : (0 : Int) ≤ (q : Int) := by omega
      have hqm : (q : Int) < (m : Int) := by omega
      have hsub : IntKind.i64.wrap ((q : Int) - 1) = (q : Int) - 1 := IntWalk.i64_in _ (by omega)
      have hlen : pre.length < m := by have := HLN.out; omega
      have hPx := HP.out q (by rw [HLX.out]; omega)
      obtain ⟨fn, tmps, assign, body, hy, hRr⟩ := hY pre ⟨(q, ix xs q), hPx⟩ wr hJs hlen
      try dsimp only at hy
      clear eq
      gi_wp2
      refine hRr.mono ?_
      rintro e W3 (⟨rfl, hJ3, hk3⟩ | ⟨rfl, hJx3⟩)
      · have HC3 : Hid (W3.cell? ⟨Bn, 0, none⟩ = some (.slice (some ⟨b, off, none⟩) m c)) := Lib.hid ((hk3.cell hBn).trans hcn)
        have HR3 := Lib.hid (HRD.out.below hk3)
        clear hcell hcn
        gi_wp2
        go_roundw
        case rel => exact ⟨pre ++ [⟨(q, ix xs q), hPx⟩], q, by omega, rfl, HC3, HR3, hJ3, Lib.hid (by rw [bwv_snoc, HV.out, drop_rev xs q (by rw [HLX.out]; omega)]), Lib.hid (by rw [List.length_append]; have := HLN.out; simp; omega)⟩
        case measure => (simp [intOf]) <;> omega
      · gi_wp2
        refine bodyPost_ret (results_none rfl _ _ _) rfl ?_
        exact ⟨⟨_, rfl⟩, .inr ⟨pre ++ [⟨(q, ix xs q), hPx⟩], by
          rw [bwv_snoc, HV.out, ← drop_rev xs q (by rw [HLX.out]; omega)]
          have h2 : xs.reverse = (xs.drop q).reverse ++ (xs.take q).reverse := by rw [← List.reverse_append, List.take_append_drop]
          rw [h2]
          exact List.prefix_append _ _, hJx3⟩⟩
end Go.Proofs.Yticklaophgekeaa
