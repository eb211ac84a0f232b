/-
  CONTRACTS of the clock of package backoff, as far as the document's example wants them, and the example itself, over this translation.
-/
import Derived.Test.YtinphdphloddmabCWalks
import Derived.Maps.OwnSet
import Derived.OneCell
namespace Go.Proofs.Ytinphdphloddmab
open Go.RowKit Go.Maps
open BackP
set_option linter.unusedVariables false
set_option maxRecDepth 10000

theorem lawI : Keyed Try.prog 3 := int_keyed Try.underlying3
theorem zeroI (w : World) : (zeroValue 3).run Try.prog w = .ok (.int .i64 0) w := by kernel_rfl

/-- A clock lies at block cb: its time, and its map of alarms at block bm, which reads as D. -/
structure Clk (w : World) (cb bm : Nat) (now : Int) (n : Nat) (D : DataW Unit) : Prop where
  row : w.heap[cb]? = some (.cells #[.int .i64 now, .map (some bm)] 97 (0, 0))
  own : w.ownsMap Try.prog 3 (plainElem Try.prog 3) bm n D
  ne : cb ≠ bm
theorem Clk.c0 {w : World} {cb bm n : Nat} {now : Int} {D : DataW Unit} (h : Clk w cb bm now n D) : w.cell? ⟨cb, 0, none⟩ = some (.int .i64 now) := by rw [cell_of_row w cb 0 _ _ _ h.row]; rfl
theorem Clk.c1 {w : World} {cb bm n : Nat} {now : Int} {D : DataW Unit} (h : Clk w cb bm now n D) : w.cell? ⟨cb, 1, none⟩ = some (.map (some bm)) := by rw [cell_of_row w cb 1 _ _ _ h.row]; rfl
theorem Clk.f0 {w : World} {cb bm n : Nat} {now : Int} {D : DataW Unit} (h : Clk w cb bm now n D) : w.frozen? ⟨cb, 0, none⟩ = false := frozen_of_row w cb 0 _ _ h.row
theorem Clk.lt {w : World} {cb bm n : Nat} {now : Int} {D : DataW Unit} (h : Clk w cb bm now n D) : cb < w.heap.size := by
  rcases Nat.lt_or_ge cb w.heap.size with hlt | hge
  · exact hlt
  · have := h.row; rw [Array.getElem?_eq_none hge] at this; cases this

theorem new_any (w : World) : Calls Try.prog 31 #[] w fun e w' => e = .returned (.pointer (some ⟨w.heap.size + 1, 0, none⟩)) ∧ Clk w' (w.heap.size + 1) w.heap.size 0 0 (.map []) ∧ Below w.heap.size w w' := by
  have hmm := @run_makeMap Try.prog
  have HC : Hid (Clk ((w.alloc (.map #[] 0)).alloc (.cells #[.int .i64 0, .map (some w.heap.size)] 97)) (w.heap.size + 1) w.heap.size 0 0 (.map [])) := Lib.hid
    ⟨by have := heap_alloc_new (w.alloc (.map #[] 0)) (.cells #[.int .i64 0, .map (some w.heap.size)] 97); rw [World.size_alloc] at this; exact this,
     (World.ownsMap_made w Try.prog 3 _).alloc _, by omega⟩
  have HB : Hid (Below w.heap.size w ((w.alloc (.map #[] 0)).alloc (.cells #[.int .i64 0, .map (some w.heap.size)] 97))) := Lib.hid (((Below.refl _ w).alloc (Nat.le_refl _) _).alloc (by simp) _)
  go_enter Try.func31, Try.ntmps31
  go_wp2
  go_ret
  exact ⟨rfl, HC.out, HB.out⟩

theorem i64_wf (x : Int) (h0 : -9223372036854775808 ≤ x) (h1 : x ≤ 9223372036854775807) : (Lit.int .i64 x).wf = true := by
  simp [Lit.wf, IntKind.min, IntKind.max, IntKind.signed, IntKind.bits]; omega

theorem set_ok {w : World} {cb bm n : Nat} {now : Int} {D : DataW Unit} (hc : Clk w cb bm now n D) (hn : n ≤ 1000000) (id at_ : Int) (h0 : 0 ≤ id) (h1 : id ≤ 999999) (h2 : 0 ≤ at_) (h3 : at_ ≤ 1125899906842624) :
    Calls Try.prog 32 #[.pointer (some ⟨cb, 0, none⟩), .int .i64 id, .int .i64 at_] w fun e w' => e = .returned (.int .i64 0) ∧ Clk w' cb bm now (n + 1) (D.put (.int .i64 id) (.lit (.int .i64 at_))) ∧ w.grownBy w' (some bm) := by
  have HC := Lib.hid hc
  have c1 := hc.c1
  have hkey := keyOf_int_mk Try.underlying3 (i64_wf id (by omega) (by omega))
  have hval := plainElem_int (H := Unit) Try.underlying3 (i64_wf at_ (by omega) (by omega))
  have HK := Lib.hid hkey
  have HV := Lib.hid hval
  clear hc hkey hval
  go_enter Try.func32, Try.ntmps32
  go_wp2_with (at_mapUpdate; refine wpList_mapUpdate_own _ rfl _ _ _ 95 rfl 3 3 lawI Try.underlying95 _ bm n D rfl HC.out.own (by unfold maxLen; omega) _ _ _ rfl rfl HK.out _ [] HV.out ?_; intro w1 hown1 hgrow1)
  have HG := Lib.hid hgrow1
  have HR : Hid (Clk w1 cb bm now (n + 1) (D.put (.int .i64 id) (.lit (.int .i64 at_)))) := Lib.hid ⟨(hgrow1.block cb HC.out.lt (fun e => HC.out.ne (by injection e))).trans HC.out.row, hown1, HC.out.ne⟩
  clear hown1 hgrow1
  go_wp2
  go_ret
  exact ⟨rfl, HR.out, HG.out⟩

theorem tick_ok {w : World} {cb bm n : Nat} {now : Int} {D : DataW Unit} (hc : Clk w cb bm now n D) (k : Int) (h0 : 0 ≤ k) (h1 : k ≤ 1099511627776) (h2 : 0 ≤ now) (h3 : now + k ≤ 1125899906842624) :
    Calls Try.prog 34 #[.pointer (some ⟨cb, 0, none⟩), .int .i64 k] w fun e w' => e = .returned (.int .i64 0) ∧ Clk w' cb bm (now + k) n D ∧ w.grownBy w' (some cb) := by
  have HC := Lib.hid hc
  have c0 := hc.c0
  have f0 := hc.f0
  clear hc
  have HR : Hid (Clk (w.setCell ⟨cb, 0, none⟩ (.int .i64 (now + k))) cb bm (now + k) n D) := Lib.hid
    ⟨heap_setCell_same w cb 0 _ _ _ HC.out.row, HC.out.own.setCell (fun e => HC.out.ne e.symm) _, HC.out.ne⟩
  have HG : Hid (w.grownBy (w.setCell ⟨cb, 0, none⟩ (.int .i64 (now + k))) (some cb)) := Lib.hid
    ⟨rfl, rfl, rfl, by simp, fun i _ hne => Below.heap_setCell w _ _ i (fun e => hne (by rw [e]))⟩
  go_enter Try.func34, Try.ntmps34
  go_wp2
  go_ret
  exact ⟨rfl, HR.out, HG.out⟩

def readyB (at_ now : Int) : Bool := decide (at_ ≤ now)
theorem ready_has {w : World} {cb bm n : Nat} {now : Int} {D : DataW Unit} (hc : Clk w cb bm now n D) (id at_ : Int) (h0 : 0 ≤ id) (h1 : id ≤ 999999) (hh : Maps.has D (.int .i64 id) = true) (hat : D.atKey (.int .i64 id) (.lit (.int .i64 0)) = .lit (.int .i64 at_)) :
    Calls Try.prog 52 #[.pointer (some ⟨cb, 0, none⟩), .int .i64 id] w fun e w' => e = .returned (.bool (readyB at_ now)) ∧ w = w' := by
  have HC := Lib.hid hc
  have c1 := hc.c1
  have c0 := hc.c0
  have HK := Lib.hid (keyOf_int_mk Try.underlying3 (i64_wf id (by omega) (by omega)))
  have HA := Lib.hid hat
  clear hc hat
  by_cases hle : at_ ≤ now
  · have HE : Hid (readyB at_ now = true) := Lib.hid (by unfold readyB; simp [hle])
    have HL := Lib.hid hle
    clear hle
    go_enter Try.func52, Try.ntmps52
    go_wp2_with (at_lookup; refine wpList_lookup_own_ok_int _ rfl _ _ 95 rfl 3 3 .i64 lawI Try.underlying95 Try.underlying3 (zeroI _) bm n D rfl HC.out.own _ _ rfl HK.out ?_; intro c hcat hwc; obtain rfl : c = at_ := (by have := hcat.symm.trans HA.out; injection this with h; injection h); (have hle2 : c ≤ now := HL.out); clear hcat hwc)
    go_ret
    exact ⟨by rw [HE.out]; rfl, rfl⟩
  · have HE : Hid (readyB at_ now = false) := Lib.hid (by unfold readyB; simp; omega)
    have HL := Lib.hid hle
    clear hle
    go_enter Try.func52, Try.ntmps52
    go_wp2_with (at_lookup; refine wpList_lookup_own_ok_int _ rfl _ _ 95 rfl 3 3 .i64 lawI Try.underlying95 Try.underlying3 (zeroI _) bm n D rfl HC.out.own _ _ rfl HK.out ?_; intro c hcat hwc; obtain rfl : c = at_ := (by have := hcat.symm.trans HA.out; injection this with h; injection h); (have hle2 : decide (c ≤ now) = false := decide_eq_false HL.out); clear hcat hwc)
    go_ret
    exact ⟨by rw [HE.out]; rfl, rfl⟩

set_option maxHeartbeats 1600000 in
theorem anchor_any (w : World) : Calls Try.prog 30 #[] w fun e w' => e = .returned (.bool true) ∧ Below w.heap.size w w' := by
  have E1 : Hid (waitOf 3 20 3 = 12) := Lib.hid (by decide)
  have E2 : Hid (sumD 3 20 4 = 41) := Lib.hid (by decide)
  have hr : RW 3 20 := ⟨by omega, by omega, by omega, by omega⟩
  have HR := Lib.hid hr
  clear hr
  have h1 : Maps.has ((DataW.map [] : DataW Unit).put (.int .i64 1) (.lit (.int .i64 5))) (.int .i64 1) = true := by decide
  have h2 : ((DataW.map [] : DataW Unit).put (.int .i64 1) (.lit (.int .i64 5))).atKey (.int .i64 1) (.lit (.int .i64 0)) = .lit (.int .i64 5) := by rfl
  have H1 := Lib.hid h1
  have H2 := Lib.hid h2
  clear h1 h2
  go_enter Try.func30, Try.ntmps30
  go_wp2_with fail
  refine (wait_yes 3 20 3 _ HR.out (by omega) (by omega)).mono ?_
  rintro e w' ⟨rfl, rfl⟩
  rw [E1.out]
  go_wp2_with fail
  refine (total_yes 3 20 4 _ HR.out (by omega)).mono ?_
  rintro e w' ⟨rfl, rfl⟩
  rw [E2.out]
  go_wp2_with fail
  refine (new_any _).mono ?_
  rintro e w1 ⟨rfl, hc1, hb1⟩
  have HC1 := Lib.hid hc1
  have HB1 := Lib.hid hb1
  clear hc1 hb1
  go_wp2_with fail
  refine (set_ok HC1.out (by omega) 1 5 (by omega) (by omega) (by omega) (by omega)).mono ?_
  rintro e w2 ⟨rfl, hc2, hg2⟩
  have HC2 := Lib.hid hc2
  have HB2 : Hid (Below w.heap.size w w2) := Lib.hid (HB1.out.grown hg2 HB1.out.size (fun k h => by cases h; exact Nat.le_refl _))
  clear hc2 hg2
  go_wp2_with fail
  refine (ready_has HC2.out 1 5 (by omega) (by omega) H1.out H2.out).mono ?_
  rintro e w3 ⟨rfl, rfl⟩
  have R1 : Hid (readyB 5 0 = false) := Lib.hid (by decide)
  have R2 : Hid (readyB 5 (0 + 5) = true) := Lib.hid (by decide)
  rw [R1.out]
  go_wp2_with fail
  refine (tick_ok HC2.out 5 (by omega) (by omega) (by omega) (by omega)).mono ?_
  rintro e w3 ⟨rfl, hc3, hg3⟩
  have HC3 := Lib.hid hc3
  have HB3 : Hid (Below w.heap.size w w3) := Lib.hid (HB2.out.grown hg3 HB2.out.size (fun k h => by cases h; omega))
  clear hc3 hg3
  go_wp2_with fail
  refine (ready_has HC3.out 1 5 (by omega) (by omega) H1.out H2.out).mono ?_
  rintro e w4 ⟨rfl, rfl⟩
  rw [R2.out]
  go_wp2
  go_ret
  exact ⟨rfl, HB3.out⟩
end Go.Proofs.Ytinphdphloddmab
