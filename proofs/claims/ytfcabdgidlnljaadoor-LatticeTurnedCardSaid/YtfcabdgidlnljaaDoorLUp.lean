/-
  CONTRACT of package lattice: Up.
-/
import Derived.Test.YtfcabdgidlnljaaDoorLMemQ
import Derived.Test.YtfcabdgidlnljaaDoorLLaw0
import Derived.RangeFuncWrites
import Derived.BigRegionIn
namespace Go.Proofs.YtfcabdgidlnljaaDoor
open Go.RowKit Go.Shelf
open DiP
set_option linter.unusedVariables false
set_option linter.unusedSimpArgs false
set_option maxRecDepth 100000
attribute [local go_sem] Oper.semAt_some
/-- What is behind a set's nodes. -/
def upL (r : Nat → Nat) (s : Nat) (l : List Nat) : Nat := l.foldl (fun a v => orn a (r v)) s
theorem upL_snoc (r : Nat → Nat) (s : Nat) (l : List Nat) (v : Nat) : upL r s (l ++ [v]) = orn (upL r s l) (r v) := by unfold upL; rw [List.foldl_append]; rfl
theorem upL_lt {r : Nat → Nat} (hr : ∀ v, r v < lim) : ∀ (l : List Nat) {s : Nat}, s < lim → upL r s l < lim
  | [], s, h => h
  | v :: l, s, h => upL_lt hr l (s := orn s (r v)) (orn_lt h (hr v))
theorem bt_upL (r : Nat → Nat) (u : Nat) : ∀ (l : List Nat) (s : Nat), bt (upL r s l) u = true ↔ bt s u = true ∨ ∃ v, v ∈ l ∧ bt (r v) u = true
  | [], s => by simp [upL]
  | v :: l, s => by
    have ih := bt_upL r u l (orn s (r v))
    show bt (upL r (orn s (r v)) l) u = true ↔ _
    rw [ih, bt_orn, Bool.or_eq_true]
    constructor
    · rintro ((h | h) | ⟨x, h1, h2⟩)
      · exact .inl h
      · exact .inr ⟨v, by simp, h⟩
      · exact .inr ⟨x, by simp [h1], h2⟩
    · rintro (h | ⟨x, h1, h2⟩)
      · exact .inl (.inl h)
      · rw [List.mem_cons] at h1
        rcases h1 with rfl | h1
        · exact .inl (.inr h2)
        · exact .inr ⟨x, h1, h2⟩
def upG (n : Nat) (g : List (Nat × Nat)) (s : Nat) : Nat := upL (rchG n g) s (memL s)
set_option maxHeartbeats 1000000 in
theorem up_bad {w : World} {B m c : Nat} {n z : Int} {A : Option Addr} {es : List (Int × Int)} (hx : RdE w B A m es) (hr : ¬ GraphR n es) (hm0 : m ≤ 9223372036854775807) (hB : B ≤ w.heap.size) :
    Calls Tryd.prog 20 #[.agg #[.int .i64 n, .slice A m c], .int .u64 z] w fun e w' => e = .returned (.tuple #[.int .u64 0, .int .i64 20]) ∧ Below w.heap.size w w' := by
  have HX := Lib.hid hx
  have HR := Lib.hid hr
  clear hx hr
  refine (callsIn_wide (n := 9)).1 ?_
  refine callsIn_of_wp_marks Tryd.func20 rfl trivial ?_ rfl
  simp only [Tryd.ntmps20, List.size_toArray, List.length_cons, List.length_nil, Nat.reduceAdd, Nat.reduceSub, Array.replicate_succ, Array.replicate_zero, List.push_toArray, List.append_toArray, List.nil_append, List.cons_append]
  gi_wp2_with fail
  refine ⟨trivial, ?_⟩
  gi_at_call 26
  refine (callsIn_wide.2 (lcheck_bad (HX.out.alloc hB _) HR.out hm0 (by simp; omega))).mono ?_
  rintro e w2 ⟨rfl, hb⟩
  have HB := Lib.hid hb
  clear hb
  gi_wp2
  exact ⟨_, results_tmp2 rfl _ _ _, rfl, ((Below.refl _ _).alloc (Nat.le_refl _) _).trans (HB.out.mono (by simp))⟩
set_option maxHeartbeats 1000000 in
theorem up_out {w : World} {B m c n s : Nat} {A : Option Addr} {g : List (Nat × Nat)} (hx : RdG w B A m g) (hi : InN n g) (hn : n ≤ 64) (hm : m ≤ 4096) (hB : B ≤ w.heap.size) (hf : fitsB s n = false) :
    Calls Tryd.prog 20 #[.agg #[.int .i64 (n : Int), .slice A m c], .int .u64 (s : Int)] w fun e w' => e = .returned (.tuple #[.int .u64 0, .int .i64 20]) ∧ Below w.heap.size w w' := by
  have HC := Lib.hid (lcheck_any (w := w.alloc (.cells #[.int .i64 (n : Int), .slice A m c] 24)) (c := c) (s := s) (RdE.alloc hx hB _) hi hn hm (by simp; omega))
  rw [hf] at HC
  clear hx hi hf
  refine (callsIn_wide (n := 9)).1 ?_
  refine callsIn_of_wp_marks Tryd.func20 rfl trivial ?_ rfl
  simp only [Tryd.ntmps20, List.size_toArray, List.length_cons, List.length_nil, Nat.reduceAdd, Nat.reduceSub, Array.replicate_succ, Array.replicate_zero, List.push_toArray, List.append_toArray, List.nil_append, List.cons_append]
  gi_wp2_with fail
  refine ⟨trivial, ?_⟩
  gi_at_call 26
  refine (callsIn_wide.2 HC.out).mono ?_
  rintro e w2 ⟨rfl, hb⟩
  have HB := Lib.hid hb
  clear hb HC
  gi_wp2
  exact ⟨_, results_tmp2 rfl _ _ _, rfl, ((Below.refl _ _).alloc (Nat.le_refl _) _).trans (HB.out.mono (by simp))⟩
set_option maxHeartbeats 4000000 in
theorem up_any {w : World} {B m c n s : Nat} {A : Option Addr} {g : List (Nat × Nat)} (hx : RdG w B A m g) (hi : InN n g) (hn : n ≤ 64) (hm : m ≤ 4096) (hB : B ≤ w.heap.size) (hs : s < lim) (hf : fitsB s n = true) (hT : Tz w) (h0 : 0 < w.heap.size) :
    Calls Tryd.prog 20 #[.agg #[.int .i64 (n : Int), .slice A m c], .int .u64 (s : Int)] w fun e w' => e = .returned (.tuple #[.int .u64 (upG n g s : Int), .int .i64 0]) ∧ Below w.heap.size w w' := by
  have HX := Lib.hid hx
  have HI := Lib.hid hi
  have HS := Lib.hid hs
  have HT := Lib.hid hT
  have HIN := Lib.hid (inS_fits hn hf)
  have HRS : Hid (∀ v, rchG n g v < lim) := Lib.hid (show ∀ v, rchG n g v < lim from rchK_small hi hn n)
  have HC := Lib.hid (lcheck_any (w := w.alloc (.cells #[.int .i64 (n : Int), .slice A m c] 24)) (c := c) (s := s) (RdE.alloc hx hB _) hi hn hm (by simp; omega))
  rw [hf] at HC
  clear hx hi hf hs hT
  refine (callsIn_wide (n := 9)).1 ?_
  refine callsIn_of_wp_marks Tryd.func20 rfl trivial ?_ rfl
  simp only [Tryd.ntmps20, List.size_toArray, List.length_cons, List.length_nil, Nat.reduceAdd, Nat.reduceSub, Array.replicate_succ, Array.replicate_zero, List.push_toArray, List.append_toArray, List.nil_append, List.cons_append]
  gi_wp2_with fail
  refine ⟨trivial, ?_⟩
  gi_at_call 26
  refine (callsIn_wide.2 HC.out).mono ?_
  rintro e w2 ⟨rfl, hb⟩
  clear HC
  obtain ⟨hcn, hcs⟩ := (boxed_alloc w (n : Int) A m c 24).below hb (by simp)
  have HB2 : Hid (Below w.heap.size w w2) := Lib.hid (((Below.refl _ _).alloc (Nat.le_refl _) _).trans (hb.mono (by simp)))
  have hsz2 : w.heap.size < w2.heap.size := by have := hb.size; simp at this; omega
  clear hb
  gi_wp2_with fail
  refine ⟨trivial, ?_⟩
  gi_at_call 27
  refine (callsIn_wide.2 (reachM_any (HX.out.below (HB2.out.mono hB)) HI.out hn hm (by omega))).mono ?_
  rintro e w3 ⟨A', c', rfl, hrd, hb3⟩
  obtain ⟨p3, hp3⟩ : ∃ p3, w3.heap.size = p3 := ⟨_, rfl⟩
  have Hp3 := Lib.hid hp3
  have HB3 : Hid (Below w.heap.size w w3) := Lib.hid (HB2.out.trans (hb3.mono (by omega)))
  have HRD := Lib.hid hrd
  clear hb3 hrd hcn hcs hsz2
  gi_wp2_with fail
  refine ⟨trivial, ?_⟩
  gi_at_call 28
  refine (members_in _ _ _).mono ?_
  rintro e W6 ⟨rfl, hW6⟩
  have HW6 : Hid (W6.heap.size = p3 + 1 + 1 + 1) := Lib.hid (by rw [hW6]; simp; omega)
  have hb36 : Below p3 w3 W6 := by rw [hW6, ← hp3]; exact (((Below.refl _ w3).alloc (Nat.le_refl _) _).alloc (by simp) _).alloc (by simp; omega) _
  have hbA : Go.Boxed W6 p3 29 (.slice A' n c') := by
    have h := ((Go.Boxed.new w3 29 (.slice A' n c')).alloc (.cells #[.int .u64 (s : Int)] 35)).alloc (.cells #[.int .u64 (s : Int)] 35)
    rw [hp3] at h; rw [hW6]; exact h
  have hbB : Go.Boxed W6 (p3 + 1) 35 (.int .u64 (s : Int)) := by
    have h := (Go.Boxed.new (w3.alloc (.cells #[.slice A' n c'] 29)) 35 (.int .u64 (s : Int))).alloc (.cells #[.int .u64 (s : Int)] 35)
    rw [World.size_alloc, hp3] at h; rw [hW6]; exact h
  have hbC : Go.Boxed W6 (p3 + 1 + 1) 35 (.int .u64 (s : Int)) := by
    have h := Go.Boxed.new ((w3.alloc (.cells #[.slice A' n c'] 29)).alloc (.cells #[.int .u64 (s : Int)] 35)) 35 (.int .u64 (s : Int))
    rw [World.size_alloc, World.size_alloc, hp3] at h; rw [hW6]; exact h
  have hlp : w.heap.size ≤ p3 := by rw [← hp3]; exact HB3.out.size
  have HLP := Lib.hid hlp
  have HTZ : Hid (Tz W6) := Lib.hid (HT.out.below (HB3.out.trans (hb36.mono hlp)) h0)
  obtain ⟨k0, hk0⟩ : ∃ k0, w.heap.size = k0 := ⟨_, rfl⟩
  have Hk0 := Lib.hid hk0
  have HW6E := Lib.hid hW6
  clear hW6 hlp
  gi_wp2_with fail
  refine wpIn_rangeFunc_ownG rfl (by omega) (gf := 39) (lb := #[.pointer (some ⟨p3 + 1 + 1, 0, none⟩)]) rfl trivial (enters_of Tryd.func39 (by kernel_rfl) rfl)
    (members_stopsP (P := fun v => bt s v = true) 8 (by omega) (p3 + 1 + 1) p3 s HS.out (fun v _ h => h) W6 (by have := HLP.out; omega) (by rw [HW6.out]; omega) hbC.cell HTZ.out (by rw [HW6.out]; omega)) belowK_t (belowK_b (by rw [HW6.out]; omega)) (Below.refl _ _) (fun _ => rfl)
    (fun pre W => (Go.Boxed W p3 29 (.slice A' n c') ∧ Go.Boxed W (p3 + 1) 35 (.int .u64 ((upL (rchG n g) s (ndp pre) : Nat) : Int))) ∧ Below p3 w3 W)
    (fun _ _ _ => False)
    (OwnFrom.and (fun pre A B row hs hg hr => ⟨hs.1.kept hg (fun e => by have := (hr _ e.symm).1; rw [HW6.out] at this; omega), hs.2.kept hg (fun e => by have := (hr _ e.symm).1; rw [HW6.out] at this; omega)⟩) (ownFrom_below (by rw [Hp3.out]; exact Nat.le_refl _) (by rw [HW6.out]; omega)))
    (fun _ _ _ _ _ hs _ _ => hs)
    ⟨⟨hbA, hbB⟩, hb36⟩
    (fun x => { tmps := #[.agg #[.int .i64 (n : Int), .slice A m c], .int .u64 (s : Int), .pointer (some ⟨k0, 0, none⟩), undef, .int .u64 0, .int .i64 0, .int .i64 0, .pointer (some ⟨p3, 0, none⟩), .int .i64 0, .pointer (some ⟨p3 + 1, 0, none⟩), .int .i64 (x.1 : Int), .agg #[.int .i64 (n : Int), .slice A m c], .int .u64 (s : Int), .int .i64 0, .int .i64 0, .bool false, undef, .tuple #[.slice A' n c', .int .i64 0], .agg #[.int .i64 (n : Int), .slice A m c], .tuple #[.slice A' n c', .int .i64 0], .slice A' n c', .int .i64 0, .int .i64 0, .bool false, undef, .int .u64 (s : Int), .int .u64 (s : Int), .func (.func 39) #[] #[.pointer (some ⟨p3 + 1 + 1, 0, none⟩)], .int .i64 (x.1 : Int), undef, undef, undef, undef, undef, undef, undef], defers := [] }) ?assign ?body ?done ?stop
  case assign =>
    intro l x W K hK
    gi_wp2
    exact hK
  case body =>
    rintro l pre x W ⟨⟨hA, hBx⟩, hbl⟩ hlt
    have hc0 := hA.cell
    have hc1 := hBx.cell
    have hxn : x.1 < n := Nat.lt_of_not_le fun h => by
      have h1 := HIN.out.2 x.1 h
      rw [x.2.2] at h1; cases h1
    obtain ⟨b, off, hA', hbl2, hcell⟩ := HRD.out (by omega)
    subst hA'
    have hck : W.cell? ⟨b, off + x.1, none⟩ = some (.int .u64 ((rchG n g x.1 : Nat) : Int)) := (hbl.cell (p := ⟨b, off + x.1, none⟩) (by rw [← Hp3.out]; exact hbl2)).trans (hcell x.1 hxn)
    have HUL := Lib.hid (upL_lt HRS.out (ndp pre) HS.out)
    have hor : bits BinOp.or IntKind.u64 ((upL (rchG n g) s (ndp pre) : Nat) : Int) ((rchG n g x.1 : Nat) : Int) = ((upL (rchG n g) s (ndp (pre ++ [x])) : Nat) : Int) := by
      rw [bits_or_u64_nat _ _ HUL.out (HRS.out x.1), ndp_snoc, upL_snoc]; rfl
    have HA := Lib.hid hA
    have HBX := Lib.hid hBx
    have HBL := Lib.hid hbl
    clear hcell hbl2 hA hBx hbl
    have hcf := HBX.out.frozen
    gi_wp2
    gi_region
    all_goals gi_wp2
    all_goals exact ⟨((KeepsOthers.setCell W ⟨p3 + 1, 0, none⟩ _).trans (KeepsOthers.drew _)).from _, Below.drew ((Below.refl p3 W).setCell (p := ⟨p3 + 1, 0, none⟩) (by simp) _), ⟨Go.Boxed.other HA.out (by omega) _, (congrArg (fun z => Go.Boxed (W.setCell ⟨p3 + 1, 0, none⟩ (.int .u64 z)) (p3 + 1) 35 (.int .u64 ((upL (rchG n g) s (ndp (pre ++ [x])) : Nat) : Int))) hor).mpr (HBX.out.set _)⟩, Below.drew (HBL.out.setCell (p := ⟨p3 + 1, 0, none⟩) (by simp) _)⟩
  case done =>
    rintro D' xs W hDD hS ⟨⟨hA, hBx⟩, hbl⟩ hK
    have hc1 := hBx.cell
    have hSU : Hid (upL (rchG n g) s (ndp xs) = upG n g s) := Lib.hid (by rw [hS]; rfl)
    rw [hSU.out] at hc1
    have HK := Lib.hid hK
    have HDD : Hid (p3 + 1 + 1 + 1 ≤ D') := Lib.hid (by rw [← HW6.out]; exact hDD)
    have HBL := Lib.hid hbl
    clear hA hBx hS hK hDD hbl
    gi_wp2
    refine ⟨by simp, .inl ⟨_, _, rfl, run_takeDeferred HK.out, ?_⟩⟩
    refine ⟨_, results_tmp2 rfl _ _ _, rfl, ?_⟩
    rw [Hk0.out]
    have h1 : Below k0 w W := by rw [← Hk0.out]; exact HB3.out.trans (HBL.out.mono HLP.out)
    exact h1.trans (belowK_b (w := W6) (by rw [HW6.out]; have := HLP.out; rw [Hk0.out] at this; omega) W D' _ _ (by rw [HW6.out]; exact HDD.out) HK.out rfl rfl)
  case stop =>
    rintro D' cx pre W _ _ h _
    exact h.elim
end Go.Proofs.YtfcabdgidlnljaaDoor
