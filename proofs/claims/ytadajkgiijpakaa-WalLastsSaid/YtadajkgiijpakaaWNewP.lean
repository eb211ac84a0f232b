/-
  WORDS for newest of package wal: the log in the last whole file.
-/
import Derived.Test.YtadajkgiijpakaaKInts
import Derived.RangeFuncNested
import Derived.RangeFuncBound
import Derived.RangeFuncCalls
import Derived.RangeFuncLeaves
import Derived.Shelf.Abstract
import Derived.Shelf.RegionOpen
import Derived.OwnWalkIn
import Derived.TacticsInMore
import Derived.LoopNIn
import Derived.LoopIn
import Derived.Test.YtadajkgiijpakaaWRead
import Derived.Test.YtadajkgiijpakaaWPsh
import Derived.Test.YtadajkgiijpakaaKNames
namespace Go.Proofs.Ytadajkgiijpakaa
open Go.RowKit Go.Shelf
open ByteP
set_option linter.unusedVariables false
set_option maxRecDepth 100000
attribute [local go_sem] Oper.semAt_some

/-- What a round is handed: a place, and what stands there. -/
abbrev Bw (P : Int → Prop) := { p : Nat × Int // P p.2 }
abbrev bwv {P : Int → Prop} (l : List (Bw P)) : List Int := l.map (fun x => x.1.2)
theorem bwv_snoc {P : Int → Prop} (l : List (Bw P)) (x : Bw P) : bwv (l ++ [x]) = bwv l ++ [x.1.2] := by simp [bwv]
theorem drop_rev (xs : List Int) (q : Nat) (h : q < xs.length) : (xs.drop q).reverse = (xs.drop (q + 1)).reverse ++ [ix xs q] := by
  rw [List.drop_eq_getElem_cons h, List.reverse_cons]
  simp [ix, List.getD, h]
theorem backward_in (n : Nat) (A : Option Addr) (m c : Nat) (w : World) :
    CallsIn Fence.wide n Try.prog 50 #[.slice A m c] w fun e w' => e = .returned (.func (.func 59) #[] #[.pointer (some ⟨w.heap.size, 0, none⟩)]) ∧ w' = w.alloc (.cells #[.slice A m c] 31) := by
  refine callsIn_of_wp Try.func50 rfl trivial ?_ rfl
  simp only [Try.ntmps50, List.size_toArray, List.length_cons, List.length_nil, Nat.reduceAdd, Nat.reduceSub, Array.replicate_succ, Array.replicate_zero, List.push_toArray, List.append_toArray, List.nil_append, List.cons_append]
  gi_wp2
  go_ret
  exact ⟨rfl, rfl⟩
set_option maxHeartbeats 2000000 in
theorem backward_stops {P : Int → Prop} (n : Nat) (hn : 1 ≤ n) (Bn n₀ : Nat) (A : Option Addr) (m c : Nat) (xs : List Int) (w : World) (hP : ∀ i, i < xs.length → P (ix xs i)) (hb : w.cell? ⟨Bn, 0, none⟩ = some (.slice A m c)) (hR : Rd w n₀ A m xs) (hBn : Bn < n₀) (hn0 : n₀ ≤ w.heap.size) (hm : m ≤ 1099511627776) :
    SeqStopsK Fence.wide n Try.prog 59 #[.pointer (some ⟨Bn, 0, none⟩)] (fun x : Bw P => #[.int .i64 (x.1.1 : Int), .int .i64 x.1.2]) (Below n₀) (fun pre => bwv pre = xs.reverse) (fun pre => bwv pre <+: xs.reverse) m w := by
  intro l J Jx W hW hJ hJx hY h0
  have hWB : Below n₀ w W := hW.mono hn0
  have hc0 : W.cell? ⟨Bn, 0, none⟩ = some (.slice A m c) := (hWB.cell hBn).trans hb
  have HR0 : Hid (Rd W n₀ A m xs) := Lib.hid (hR.below hWB)
  have HLX : Hid (xs.length = m) := Lib.hid hR.1
  have HP := Lib.hid hP
  have HC0 := Lib.hid hc0
  clear hR hP
  refine callsIn_of_wp Try.func59 rfl trivial ?_ rfl
  simp only [Try.ntmps59, List.size_toArray, List.length_cons, List.length_nil, Nat.reduceAdd, Nat.reduceSub, Array.replicate_succ, Array.replicate_zero, List.push_toArray, List.append_toArray, List.nil_append, List.cons_append]
  have hw0 : IntKind.i64.wrap ((m : Int) - 1) = (m : Int) - 1 := IntWalk.i64_in _ (by omega)
  gi_wp2
  gi_loopw [3] (fun p wr => ∃ (pre : List (Bw P)) (r : Nat), r ≤ m ∧ p = .int .i64 ((r : Int) - 1) ∧ Hid (wr.cell? ⟨Bn, 0, none⟩ = some (.slice A m c)) ∧ Hid (Rd wr n₀ A m xs) ∧ J pre wr ∧ Hid (bwv pre = (xs.drop r).reverse) ∧ Hid (pre.length + r = m))
    (fun p _ => (intOf p + 1).toNat)
  case atStart => exact ⟨[], m, Nat.le_refl _, rfl, HC0, HR0, h0, Lib.hid (by rw [List.drop_of_length_le (by rw [HLX.out]; exact Nat.le_refl _)]; rfl), Lib.hid (Nat.zero_add _)⟩
  case round =>
    obtain ⟨pre, r, hr, rfl, HC, HRD, hJs, HV, HLN⟩ := hrel
    rcases Nat.eq_zero_or_pos r with hr0 | hr0
    · subst hr0
      have hd : decide (((0 : Nat) : Int) - 1 ≥ 0) = false := by simp
      gi_wp2
      go_end0
      exact ⟨⟨_, rfl⟩, .inl ⟨pre, by have := HV.out; simpa using this, hJs⟩⟩
    · obtain ⟨q, rfl⟩ : ∃ q, r = q + 1 := ⟨r - 1, by omega⟩
      have eq : ((q + 1 : Nat) : Int) - 1 = (q : Int) := by omega
      rw [eq]
      obtain ⟨b, off, rfl, hbl, hcell⟩ := HRD.out.at_ (k := q) (by omega)
      have hcn := HC.out
      have hq0 : (0 : Int) ≤ (q : Int) := by omega
      have hqm : (q : Int) < (m : Int) := by omega
      have hsub : IntKind.i64.wrap ((q : Int) - 1) = (q : Int) - 1 := IntWalk.i64_in _ (by omega)
      have hlen : pre.length < m := by have := HLN.out; omega
      have hPx := HP.out q (by rw [HLX.out]; omega)
      obtain ⟨fn, tmps, assign, body, hy, hRr⟩ := hY pre ⟨(q, ix xs q), hPx⟩ wr hJs hlen
      try dsimp only at hy
      clear eq
      gi_wp2
      refine hRr.mono ?_
      rintro e W3 (⟨rfl, hJ3, hk3⟩ | ⟨rfl, hJx3⟩)
      · have HC3 : Hid (W3.cell? ⟨Bn, 0, none⟩ = some (.slice (some ⟨b, off, none⟩) m c)) := Lib.hid ((hk3.cell hBn).trans hcn)
        have HR3 := Lib.hid (HRD.out.below hk3)
        clear hcell hcn
        gi_wp2
        go_roundw
        case rel => exact ⟨pre ++ [⟨(q, ix xs q), hPx⟩], q, by omega, rfl, HC3, HR3, hJ3, Lib.hid (by rw [bwv_snoc, HV.out, drop_rev xs q (by rw [HLX.out]; omega)]), Lib.hid (by rw [List.length_append]; have := HLN.out; simp; omega)⟩
        case measure => (simp [intOf]) <;> omega
      · gi_wp2
        refine bodyPost_ret (results_none rfl _ _ _) rfl ?_
        exact ⟨⟨_, rfl⟩, .inr ⟨pre ++ [⟨(q, ix xs q), hPx⟩], by
          rw [bwv_snoc, HV.out, ← drop_rev xs q (by rw [HLX.out]; omega)]
          have h2 : xs.reverse = (xs.drop q).reverse ++ (xs.take q).reverse := by rw [← List.reverse_append, List.take_append_drop]
          rw [h2]
          exact List.prefix_append _ _, hJx3⟩⟩
theorem KeepsOthers.of_below {W W' : World} (hb : Below W.heap.size W W') : KeepsOthers W W' := ⟨hb.size, fun k o hk _ => (hb.block k (heapK_lt hk)).trans hk⟩
/-- The file is whole. -/
def whole (F : Int → Option Fi) (k : Int) : Prop := ∃ f r, F k = some f ∧ 0 < r ∧ Reads f.bs r
theorem pay_len {xs : List Int} (h : openN xs = 0) : (payT xs).length ≤ 65536 := by
  have h1 : ¬ 65536 < lenN xs := fun h2 => by
    by_cases h4 : xs.length < 4
    · rw [open13 h4] at h; cases h
    · rw [open11 h4 h2] at h; cases h
  rw [payT_yes h]
  unfold payL
  rw [List.length_take]
  omega
theorem bytes_tail {xs : List Int} (h : Bytes xs) : Bytes xs.tail := fun i => by
  have h2 : ix xs.tail i = ix xs (i + 1) := by unfold ix; simp [List.getD, List.getElem?_tail]
  rw [h2]; exact h _
theorem rec_ok {xs : List Int} (hb : Bytes xs) {j : Nat} (h : okF xs j) : RecOK (pT xs j).tail := by
  refine ⟨bytes_tail (pT_bytes hb j), ?_⟩
  have h1 := pay_len h.1
  rw [List.length_tail]
  show (payT (xs.drop (atN xs j))).length - 1 ≤ _
  omega
theorem bsOf_ok {xs : List Int} (hb : Bytes xs) {r : Nat} (h : ∀ j, j < r → okF xs j) : RecOK (bsOf xs r) := by
  unfold bsOf
  by_cases h0 : r = 0
  · rw [if_pos h0]; exact ⟨bytes_nil, by simp⟩
  · rw [if_neg h0]; exact rec_ok hb (h 0 (by omega))
theorem rsOf_ok {xs : List Int} (hb : Bytes xs) {r : Nat} (h : ∀ j, j < r → okF xs j) : ∀ x, x ∈ rsOf xs r → RecOK x := by
  intro x hx
  unfold rsOf at hx
  obtain ⟨j, hj, rfl⟩ := List.mem_map.1 hx
  rw [List.mem_range] at hj
  exact rec_ok hb (h (j + 1) (by omega))
def NoLog (w' : World) (lb : Nat) : Prop := w'.heap[lb]? = some (.cells #[.pointer none, .int .i64 (-1), .slice none 0 0, .slice none 0 0, .int .i64 0, .bool false] 83 (0, 0))
/-- What newest found. -/
structure Found (w w' : World) (db : Nat) (F : Int → Option Fi) (k : Int) (lb : Nat) (behind : Int) : Prop where
  ex : ∃ f r bA bn bc rv, F k = some f ∧ 0 < r ∧ Reads f.bs r ∧ atN f.bs r ≤ f.n ∧ behind = (f.n : Int) - (atN f.bs r : Nat) ∧ Lg w' (fun b => b < w.heap.size) w.heap.size lb ⟨db, k, bA, bn, bc, rv, (atN f.bs r : Nat), false⟩ (bsOf f.bs r) (rsOf f.bs r)
theorem Lg.nc {w w' : World} {D : Nat → Prop} {B0 lb : Nat} {v : LgV} {bs : List Int} {rs : List (List Int)} {row : Option Nat} (h : Lg w D B0 lb v bs rs) (hg : w.grownBy w' row) (hr : ∀ r, row = some r → ∃ o : Obj, w.heap[r]? = some o ∧ o.isCells = false) : Lg w' D B0 lb v bs rs := by
  have hb : ∀ {b : Nat} {cs : Array Value} {T : TypeId} {fr : Nat × Nat}, w.heap[b]? = some (.cells cs T fr) → w'.heap[b]? = w.heap[b]? := fun {b cs T fr} hc => hg.block b (heapK_lt hc) (fun e => by
    obtain ⟨o, ho, hn⟩ := hr b e.symm
    rw [hc] at ho
    injection ho with ho
    subst ho
    cases hn)
  have hk : ∀ {M : Nat → Prop} {A : Option Addr} {n : Nat} {xs : List Int}, RdK w M A n xs → RdK w' M A n xs := fun {M A n xs} hx => ⟨hx.1, fun hn => by
    obtain ⟨b, off, e, hlt, hM, hc⟩ := hx.2 hn
    exact ⟨b, off, e, Nat.lt_of_lt_of_le hlt hg.size, hM, fun j hj => cell_kept (hc j hj) hg hr⟩⟩
  refine ⟨Nat.lt_of_lt_of_le h.lt hg.size, h.ge, h.nd, (hb h.cells).trans h.cells, hk h.base, h.bb, h.bl, ⟨?_, h.row.nd⟩, h.rb⟩
  obtain ⟨vals, ho, hj⟩ := h.row.ex
  refine ⟨vals, ⟨ho.1, ?_⟩, fun j hjk => ?_⟩
  · rcases ho.2 with h1 | ⟨g, cap, cur, hv, hbg, hh, r⟩
    · exact .inl h1
    · exact .inr ⟨g, cap, cur, hv, hbg, (hb hh).trans hh, r⟩
  · obtain ⟨A, n, c, e, h1, h2, h3⟩ := hj j hjk
    exact ⟨A, n, c, e, hk h1, h2, h3⟩
theorem Found.nc {w w1 w2 : World} {db : Nat} {F : Int → Option Fi} {k : Int} {lb : Nat} {behind : Int} {row : Option Nat} (h : Found w w1 db F k lb behind) (hg : w1.grownBy w2 row) (hr : ∀ r, row = some r → ∃ o : Obj, w1.heap[r]? = some o ∧ o.isCells = false) : Found w w2 db F k lb behind := by
  obtain ⟨f, r, bA, bn, bc, rv, h1, h2, h3, h4, h5, h6⟩ := h.ex
  exact ⟨f, r, bA, bn, bc, rv, h1, h2, h3, h4, h5, h6.nc hg hr⟩
theorem last_gt {ns p : List Int} {k : Int} (ha : Asc ns) (h : p ++ [k] <+: ns.reverse) : k ∈ ns ∧ ∀ x, x ∈ ns → k < x → x ∈ p := by
  obtain ⟨t, ht⟩ := h
  have h1 : ns = t.reverse ++ (k :: p.reverse) := by
    have := congrArg List.reverse ht
    simpa using this.symm
  refine ⟨by rw [h1]; simp, fun x hx hk => ?_⟩
  rw [h1] at hx ha
  rcases List.mem_append.1 hx with h2 | h2
  · have h3 := (List.pairwise_append.1 ha).2.2 x h2 k (by simp)
    omega
  · rcases List.mem_cons.1 h2 with h3 | h3
    · omega
    · simpa using h3
end Go.Proofs.Ytadajkgiijpakaa
