/-
  CONTRACT of package lattice: larger (printed by genlarg.py).
-/
import Derived.Test.YtfcabdgidlnljaaDoorLMap
import Derived.Test.YtfcabdgidlnljaaDoorDReady
namespace Go.Proofs.YtfcabdgidlnljaaDoor
open Go.RowKit Go.Shelf
open Go.Maps (Keyed)
open DiP
set_option linter.unusedVariables false
set_option linter.unusedSimpArgs false
set_option maxRecDepth 100000
attribute [local go_sem] Oper.semAt_some
theorem fits_inS {n s : Nat} (hn : n ≤ 64) (h : inS n s) : fitsB s n = true := by
  unfold fitsB
  exact decide_eq_true (Nat.div_eq_of_lt ((inS_iff hn).1 h))
theorem belowG {w w' : World} (h : Below w.heap.size w w') : w.grownBy w' none := ⟨h.os, h.tape, h.output, h.size, fun i hi _ => h.block i hi⟩
theorem belG {b : Nat} {w w' : World} (hg : w.grownBy w' none) (hb : b ≤ w.heap.size) : Below b w w' := ⟨hg.os, hg.tape, hg.output, hg.size, fun i hi => hg.block i (by omega) (by simp)⟩
/-- Where a level stands that is gone through. -/
structure LgW {H : Type} (w : World) (b0 n m c bm K : Nat) (A : Option Addr) (g : List (Nat × Nat)) (D : DataW H) (G : Nat → Option Nat) (ds : List Nat) (left : Lit → Bool) (cnt : Nat) (wr : World) : Prop where
  bel : Below b0 w wr
  box : wr.heap[b0]? = some (.cells #[.int .i64 (n : Int), .slice A m c] 24 (0, 0))
  nxt : Go.Boxed wr (b0 + 1 + 1) 66 (Value.map (some (b0 + 1)))
  rng : wr.ranges Tryd.prog 35 (plainElem Tryd.prog 3) bm (b0 + 1 + 1 + 1) K D left cnt
  own : ∃ K1 D1, OwnM (H := H) wr (b0 + 1) K1 D1 ∧ LvD D1 (nextF G (dLeft (befG g) G (fun z => left (kU z))) n) ∧ K1 ≤ 1024
  nd : ds.Nodup
  mks : ∀ E ∈ ds, wr.heap[E]? = some (.deferred (some [])) ∧ b0 + 1 + 1 + 1 < E
inductive LgJ {H : Type} (w : World) (b0 n m c bm K : Nat) (A : Option Addr) (g : List (Nat × Nat)) (D : DataW H) (G : Nat → Option Nat) : Act → World → Prop where
  | mk (u7 u8 u9 u10 u11 u15 u16 u17 u18 u19 u20 u21 u22 u23 u24 u25 u26 u27 u28 u29 u30 u31 u32 u33 u34 u35 u36 u37 u38 u39 u40 u41 u42 u43 u44 u45 u46 u47 u48 u49 u50 : Value) (ds : List Nat) (left : Lit → Bool) (cnt : Nat) (wr : World) : LgW w b0 n m c bm K A g D G ds left cnt wr → LgJ w b0 n m c bm K A g D G { tmps := List.toArray (.agg #[.int .i64 (n : Int), .slice A m c] :: .map (some bm) :: .pointer (some ⟨b0, 0, none⟩) :: undef :: .map none :: .int .i64 0 :: .pointer (some ⟨b0 + 1 + 1, 0, none⟩) :: u7 :: u8 :: u9 :: u10 :: u11 :: .map (some (b0 + 1)) :: .map (some bm) :: .pointer (some ⟨b0 + 1 + 1 + 1, 0, none⟩) :: u15 :: u16 :: u17 :: u18 :: u19 :: u20 :: u21 :: u22 :: u23 :: u24 :: u25 :: u26 :: u27 :: u28 :: u29 :: u30 :: u31 :: u32 :: u33 :: u34 :: u35 :: u36 :: u37 :: u38 :: u39 :: u40 :: u41 :: u42 :: u43 :: u44 :: u45 :: u46 :: u47 :: u48 :: u49 :: u50 :: undef :: []), defers := ds.map mark } wr
theorem lg_bound {n M q y l : Nat} {G : Nat → Option Nat} {k : Nat} (hn : n ≤ 10) (hl : l < 64) (hq : q ≤ M) (hM : 100 * M ≤ 1000000000000000000) (hG : Most G (n * M + l * q)) (hy : (G k).getD 0 = y) : y + q ≤ 1000000000000000000 := by
  have h1 : y ≤ n * M + l * q := by
    rw [← hy]
    cases hg : G k with
    | none => simp
    | some z => exact hG _ z hg
  have h2 : n * M ≤ 10 * M := Nat.mul_le_mul_right M hn
  have h3 : l * q ≤ 64 * M := Nat.mul_le_mul (by omega) hq
  omega
theorem next_inS {n : Nat} {G : Nat → Option Nat} {d : Nat → Nat → Bool} (hn : n ≤ 64) (hG : ∀ s, (G s).isSome = true → inS n s) (hd : ∀ x v, d x v = true → (G x).isSome = true) : ∀ s, (nextF G d n s).isSome = true → inS n s := by
  intro s h
  unfold nextF at h
  split at h
  · next ha =>
    obtain ⟨hl, v, hv, hb, h2⟩ := anyW_iff.1 ha
    rw [← add_del hl (show v < 64 by omega) hb]
    exact inS_add (hG _ (hd _ _ h2)) hv hn
  · cases h
theorem dLeft_some {bef : Nat → Nat} {F : Nat → Option Nat} {left : Nat → Bool} {x v : Nat} (h : dLeft bef F left x v = true) : (F x).isSome = true := by
  unfold dLeft at h
  simp only [Bool.and_eq_true] at h
  exact h.1.1
theorem sameU (a b : Nat) : (kU a).sameKey (kU b) = decide (a = b) := by
  by_cases e : a = b
  · subst e; rw [WideAt.sameKey_self (keyLitU a), decide_eq_true rfl]
  · rw [Maps.sameKey_ne (fun h => e (kU_inj h)), decide_eq_false e]
/-- Where one set's ready nodes are gone through. -/
structure LgB {H : Type} (w : World) (b0 n m c bm K p0 P0 s q cnt KB : Nat) (A : Option Addr) (D : DataW H) (left : Lit → Bool) (ds : List Nat) (G1 : Nat → Option Nat) (W : World) : Prop where
  bel : Below b0 w W
  box : W.heap[b0]? = some (.cells #[.int .i64 (n : Int), .slice A m c] 24 (0, 0))
  nxt : Go.Boxed W (b0 + 1 + 1) 66 (Value.map (some (b0 + 1)))
  sb : Go.Boxed W p0 35 (.int .u64 (s : Int))
  qb : Go.Boxed W (p0 + 1) 3 (.int .i64 (q : Int))
  rng : W.ranges Tryd.prog 35 (plainElem Tryd.prog 3) bm (b0 + 1 + 1 + 1) K D left cnt
  own : ∃ K1 D1, OwnM (H := H) W (b0 + 1) K1 D1 ∧ LvD D1 G1 ∧ K1 ≤ KB
  mks : ∀ E ∈ ds, W.heap[E]? = some (.deferred (some [])) ∧ b0 + 1 + 1 + 1 < E ∧ E < p0
  l0 : bm < b0
  l1 : b0 + 1 + 1 + 1 < p0
  l2 : p0 + 1 < P0
section
variable {H : Type} {w W W' : World} {b0 n m c bm K p0 P0 s q cnt KB : Nat} {A : Option Addr} {D : DataW H} {left : Lit → Bool} {ds : List Nat} {G1 : Nat → Option Nat}
theorem LgB.kept {row : Option Nat} (h : LgB w b0 n m c bm K p0 P0 s q cnt KB A D left ds G1 W) (hg : W.grownBy W' row) (hr : ∀ r, row = some r → P0 ≤ r) : LgB w b0 n m c bm K p0 P0 s q cnt KB A D left ds G1 W' := by
  have hne : ∀ k, k < P0 → some k ≠ row := fun k hk e => by have := hr k e.symm; omega
  have l0 := h.l0
  have l1 := h.l1
  have l2 := h.l2
  have hsz := h.rng.lt
  refine ⟨h.bel.grown hg (by omega) (fun k e => by have := hr k e; omega), (hg.block b0 (by omega) (hne _ (by omega))).trans h.box, h.nxt.kept hg (hne _ (by omega)), h.sb.kept hg (hne _ (by omega)), h.qb.kept hg (hne _ (by omega)), h.rng.kept hg (hne _ (by omega)) (hne _ (by omega)), ?_, fun E hE => ?_, l0, l1, l2⟩
  · obtain ⟨K1, D1, h1, h2, h3⟩ := h.own
    exact ⟨K1, D1, h1.kept hg (fun e => hne _ (by omega) e), h2, h3⟩
  · obtain ⟨h1, h2, h3⟩ := h.mks E hE
    exact ⟨(hg.block E (Array.getElem?_eq_some_iff.1 h1).1 (hne _ (by omega))).trans h1, h2, h3⟩
theorem LgB.stored {K' KB' : Nat} {D' : DataW H} {G2 : Nat → Option Nat} (h : LgB w b0 n m c bm K p0 P0 s q cnt KB A D left ds G1 W) (hg : W.grownBy W' (some (b0 + 1))) (ho : OwnM W' (b0 + 1) K' D') (hD : LvD D' G2) (hK : K' ≤ KB') : LgB w b0 n m c bm K p0 P0 s q cnt KB' A D left ds G2 W' := by
  have l0 := h.l0
  have l1 := h.l1
  have l2 := h.l2
  have hsz := h.rng.lt
  have hne : ∀ k, k ≠ b0 + 1 → some k ≠ some (b0 + 1) := fun k hk e => hk (by injection e)
  refine ⟨h.bel.grown hg (by omega) (fun k e => by injection e; omega), (hg.block b0 (by omega) (hne _ (by omega))).trans h.box, h.nxt.kept hg (hne _ (by omega)), h.sb.kept hg (hne _ (by omega)), h.qb.kept hg (hne _ (by omega)), h.rng.kept hg (hne _ (by omega)) (hne _ (by omega)), ⟨K', D', ho, hD, hK⟩, fun E hE => ?_, l0, l1, l2⟩
  obtain ⟨h1, h2, h3⟩ := h.mks E hE
  exact ⟨(hg.block E (Array.getElem?_eq_some_iff.1 h1).1 (hne _ (by omega))).trans h1, h2, h3⟩
end
set_option maxHeartbeats 4000000 in
theorem larger_any {H : Type} {w : World} {B m c n : Nat} {A : Option Addr} {g : List (Nat × Nat)} (hx : RdG w B A m g) (hi : InN n g) (hn : n ≤ 10) (hm : m ≤ 4096) (hB : B ≤ w.heap.size) (hT : Tz w) (h0 : 0 < w.heap.size)
    (bm K M : Nat) (D : DataW H) (G : Nat → Option Nat) (hown : OwnM w bm K D) (hD : LvD D G) (hG : ∀ s, (G s).isSome = true → inS n s) (hM : Most G M) (hMM : 100 * M ≤ 1000000000000000000) :
    Calls Tryd.prog 34 #[.agg #[.int .i64 (n : Int), .slice A m c], .map (some bm)] w fun e w' => (∃ b K1 D1, e = .returned (.tuple #[.map (some b), .int .i64 0]) ∧ OwnM (H := H) w' b K1 D1 ∧ LvD D1 (nextF G (dAll (befG g) G) n) ∧ w.heap.size ≤ b) ∧ Below w.heap.size w w' := by
  refine (callsIn_wide (n := 9)).1 ?_
  have hmm := @run_makeMap Tryd.prog
  have HX := Lib.hid hx
  have HI := Lib.hid hi
  have HT := Lib.hid hT
  have HD := Lib.hid hD
  have HG := Lib.hid hG
  have HM := Lib.hid hM
  have HMM := Lib.hid hMM
  have HBB := Lib.hid hB
  obtain ⟨b0, hb0⟩ : ∃ b0, w.heap.size = b0 := ⟨_, rfl⟩
  have Hb0 := Lib.hid hb0
  obtain ⟨W3, hW3⟩ : ∃ W3, (((w.alloc (.cells #[.int .i64 (n : Int), .slice A m c] 24)).alloc (.map #[] 0)).alloc (.cells #[.map (some (b0 + 1))] 66)) = W3 := ⟨_, rfl⟩
  have HZ3 : Hid (W3.heap.size = b0 + 1 + 1 + 1) := Lib.hid (by rw [← hW3, ← hb0]; simp)
  have HB3 : Hid (Below b0 w W3) := Lib.hid (by rw [← hW3, ← hb0]; exact (((Below.refl _ w).alloc (Nat.le_refl _) _).alloc (by simp) _).alloc (by simp; omega) _)
  have HG3 : Hid (W3.heap[b0]? = some (.cells #[.int .i64 (n : Int), .slice A m c] 24 (0, 0))) := Lib.hid (by
    rw [← hW3, Below.heap_alloc _ _ _ (by simp; omega), Below.heap_alloc _ _ _ (by simp; omega), ← hb0]; exact World.alloc_heap_new w _)
  have HN3 : Hid (Go.Boxed W3 (b0 + 1 + 1) 66 (Value.map (some (b0 + 1)))) := Lib.hid (by
    have h := Go.Boxed.new ((w.alloc (.cells #[.int .i64 (n : Int), .slice A m c] 24)).alloc (.map #[] 0)) 66 (Value.map (some (b0 + 1)))
    simp only [World.size_alloc, hb0] at h
    rw [← hW3]; exact h)
  have HO3 : Hid (OwnM (H := H) W3 (b0 + 1) 0 (.map [])) := Lib.hid (by
    have h := World.ownsMap_made (w.alloc (.cells #[.int .i64 (n : Int), .slice A m c] 24)) Tryd.prog 35 (plainElem (H := H) Tryd.prog 3)
    rw [World.size_alloc, hb0] at h
    rw [← hW3]; exact h.alloc _)
  have HL3 : Hid (OwnM W3 bm K D) := Lib.hid (by rw [← hW3]; exact ((hown.alloc _).alloc _).alloc _)
  have HLT : Hid (bm < b0) := Lib.hid (by rw [← hb0]; exact hown.lt)
  have HW3 := Lib.hid hW3
  clear hx hi hT hown hD hG hM hMM hB hb0 hW3
  refine callsIn_of_wp_marks Tryd.func34 rfl trivial ?_ rfl
  simp only [Tryd.ntmps34, List.size_toArray, List.length_cons, List.length_nil, Nat.reduceAdd, Nat.reduceSub, Array.replicate_succ, Array.replicate_zero, List.push_toArray, List.append_toArray, List.nil_append, List.cons_append]
  gi_wp2_with (gi_at_range; rw [Hb0.out, HW3.out]; refine wpListIn_range_own _ rfl _ 66 rfl 35 3 keyedU Tryd.underlying66 _ bm K D rfl HL3.out ?_; rw [HZ3.out]; intro w0 hrg0 hg0 hs0)
  go_frame
  have HW0 : Hid (LgW w b0 n m c bm K A g D G [] (Maps.has D) (Maps.size D) w0) := Lib.hid {
    bel := HB3.out.trans (belG hg0 (by rw [HZ3.out]; omega))
    box := (hg0.block b0 (by rw [HZ3.out]; omega) (by simp)).trans HG3.out
    nxt := HN3.out.kept hg0 (by simp)
    rng := hrg0
    own := ⟨_, _, HO3.out.kept hg0 (by simp), by
      rw [next_none (fun x hx => by
        rw [(HD.out x (HG.out x hx).1).1]; exact hx)]
      exact lvD_empty, by omega⟩
    nd := List.nodup_nil
    mks := nofun }
  clear hrg0 hg0 hs0
  refine wpIn_loop (LgJ w b0 n m c bm K A g D G) (fun _ wr => wr.rangeLeft bm (b0 + 1 + 1 + 1)) (.mk _ _ _ _ _ _ _ _ _ _ _ _ _ _ _ _ _ _ _ _ _ _ _ _ _ _ _ _ _ _ _ _ _ _ _ _ _ _ _ _ _ [] _ _ _ HW0.out) ?_
  rintro a' wr ⟨u7, u8, u9, u10, u11, u15, u16, u17, u18, u19, u20, u21, u22, u23, u24, u25, u26, u27, u28, u29, u30, u31, u32, u33, u34, u35, u36, u37, u38, u39, u40, u41, u42, u43, u44, u45, u46, u47, u48, u49, u50, ds, left, cnt, _, HL⟩
  have HLW := Lib.hid HL
  have hrg := HL.rng
  clear HL HW0
  gi_wp2_with (gi_at_next; refine wpListIn_next_ranges_ii _ rfl _ rfl 35 3 .u64 .i64 keyedU Tryd.underlying35 Tryd.underlying3 bm (b0 + 1 + 1 + 1) K _ _ _ rfl hrg ?_ ?_)
  · intro hc0 hl0
    have HL0 : Hid (∀ kl, left kl = false) := Lib.hid hl0
    have hcn := HLW.out.nxt.cell
    clear hrg hl0 hc0
    gi_wp2
    refine leaves_marks ds wr HLW.out.nd (fun E hE => (HLW.out.mks E hE).1) (fun W' hWB hWK => ?_)
    obtain ⟨K1, D1, h1, h2, h3⟩ := HLW.out.own
    have hno : ∀ k, k < b0 + 1 + 1 → k ∉ ds := fun k hk h => by have := (HLW.out.mks k h).2; omega
    rw [next_all (by omega) (fun x _ => HL0.out _)] at h2
    refine ⟨_, results_tmp2 rfl _ _ _, ⟨b0 + 1, K1, D1, rfl, ?_, h2, by have := Hb0.out; omega⟩, ?_⟩
    · obtain ⟨es, clock, hb, r⟩ := h1
      exact ⟨es, clock, (hWK (b0 + 1) (hno _ (by omega))).trans hb, r⟩
    · rw [Hb0.out]
      exact HLW.out.bel.trans (hWB b0 (fun E hE => by have := (HLW.out.mks E hE).2; omega))
  · intro x cc w1 cnt1 hwx hwc hlx hat hrg1 hlt hg1 hs1 hen
    simp [Lit.wf] at hwx
    have hw1 : (0 : Int) ≤ x := hwx.1
    have hw2 : x ≤ (18446744073709551615 : Int) := hwx.2
    obtain ⟨s, rfl⟩ : ∃ s : Nat, x = (s : Int) := ⟨x.toNat, by omega⟩
    have hsl : s < lim := (show s < 18446744073709551616 by omega)
    have hGs : (G s).isSome = true := by rw [← (HD.out s hsl).1]; exact Maps.has_true_of_atKey hat
    obtain ⟨q, hq⟩ : ∃ q, G s = some q := Option.isSome_iff_exists.1 hGs
    have hcq : cc = (q : Int) := by
      have h1 := (HD.out s hsl).2 q hq (.lit (.int .i64 0))
      rw [hat] at h1
      injection h1 with h1
      injection h1
    subst hcq
    have HQ := Lib.hid hq
    have HIS := Lib.hid (HG.out s hGs)
    have HSL := Lib.hid hsl
    have HQM : Hid (q ≤ M) := Lib.hid (HM.out s q hq)
    obtain ⟨p0, hp0⟩ : ∃ p0, w1.heap.size = p0 := ⟨_, rfl⟩
    have Hp0 := Lib.hid hp0
    have Hs1 : Hid (wr.heap.size = p0) := Lib.hid (by rw [← hs1, hp0])
    obtain ⟨W4, hW4⟩ : ∃ W4, (w1.alloc (.cells #[.int .u64 (s : Int)] 35)).alloc (.cells #[.int .i64 (q : Int)] 3) = W4 := ⟨_, rfl⟩
    have HZ4 : Hid (W4.heap.size = p0 + 1 + 1) := Lib.hid (by rw [← hW4]; simp; omega)
    have hLB : ∀ P0, p0 + 1 < P0 → LgB w b0 n m c bm K p0 P0 s q cnt1 1024 A D (fun z => left z && !z.sameKey (kU s)) ds (nextF G (dLeft (befG g) G (fun z => left (kU z))) n) W4 := fun P0 hP0 => by
      have hl3 : b0 + 1 + 1 + 1 < p0 := by have := HLW.out.rng.lt; rw [Hs1.out] at this; exact this
      have e4 : ∀ k, k < p0 → W4.heap[k]? = w1.heap[k]? := fun k hk => by
        rw [← hW4, Below.heap_alloc _ _ _ (by simp; omega), Below.heap_alloc _ _ _ (by omega)]
      have g4 : w1.grownBy W4 none := by rw [← hW4]; exact (World.grownBy_alloc _ _ none).andThen (World.grownBy_alloc _ _ none) (by simp)
      have hne : ∀ k, k ≠ b0 + 1 + 1 + 1 → some k ≠ some (b0 + 1 + 1 + 1) := fun k hk e => hk (by injection e)
      have hsb : Go.Boxed W4 p0 35 (.int .u64 (s : Int)) := by
        have h := (Go.Boxed.new w1 35 (.int .u64 (s : Int))).alloc (.cells #[.int .i64 (q : Int)] 3)
        rw [hp0, hW4] at h; exact h
      have hqb : Go.Boxed W4 (p0 + 1) 3 (.int .i64 (q : Int)) := by
        have h := Go.Boxed.new (w1.alloc (.cells #[.int .u64 (s : Int)] 35)) 3 (.int .i64 (q : Int))
        rw [World.size_alloc, hp0, hW4] at h; exact h
      refine ⟨(HLW.out.bel.grown hg1 (by have := Hs1.out; omega) (fun k e => by injection e; omega)).trans (belG g4 (by omega)), (e4 b0 (by omega)).trans ((hg1.block b0 (by have := Hs1.out; omega) (hne _ (by omega))).trans HLW.out.box), (HLW.out.nxt.kept hg1 (hne _ (by omega))).kept g4 (by simp), hsb, hqb, hrg1.kept g4 (by simp) (by simp), ?_, fun E hE => ?_, HLT.out, hl3, hP0⟩
      · obtain ⟨K1, D1, h1, h2, h3⟩ := HLW.out.own
        exact ⟨K1, D1, (h1.kept hg1 (hne _ (by omega))).kept g4 (by simp), h2, h3⟩
      · obtain ⟨h1, h2⟩ := HLW.out.mks E hE
        have h3 := (Array.getElem?_eq_some_iff.1 h1).1
        rw [Hs1.out] at h3
        exact ⟨(e4 E h3).trans ((hg1.block E (by rw [Hs1.out]; exact h3) (hne _ (by omega))).trans h1), h2, h3⟩
    have HLB := Lib.hid hLB
    have HLTC := Lib.hid hlt
    have HLX := Lib.hid hlx
    have HW4 := Lib.hid hW4
    have hbox := (hLB (p0 + 1 + 1) (by omega)).box
    have cg0 : W4.cell? ⟨b0, 0, none⟩ = some (.int .i64 (n : Int)) := by simp [World.cell?, hbox]
    have cg1 : W4.cell? ⟨b0, 1, none⟩ = some (.slice A m c) := by simp [World.cell?, hbox]
    have csb := (hLB (p0 + 1 + 1) (by omega)).sb.cell
    have HB4 : Hid (Below b0 w W4) := Lib.hid (hLB (p0 + 1 + 1) (by omega)).bel
    have HC := Lib.hid (readyM_any (c := c) (HX.out.below (HB4.out.mono (by have := HBB.out; rw [Hb0.out] at this; exact this))) HI.out (show n ≤ 64 by omega) hm (by have := HBB.out; rw [Hb0.out] at this; have := HZ4.out; have := (hLB (p0 + 1 + 1) (by omega)).l1; omega) HSL.out (fits_inS (by omega) HIS.out))
    rw [← hW4] at cg0 cg1 csb
    clear hrg hwx hw1 hw2 hsl hGs hq hlx hat hrg1 hlt hg1 hLB hbox hW4
    clear hs1
    gi_wp2_with fail
    refine ⟨trivial, ?_⟩
    gi_at_call 30
    rw [show (w1.alloc (.cells #[.int .u64 (s : Int)] 35)).alloc (.cells #[.int .i64 (q : Int)] 3) = W4 from HW4.out]
    refine (callsIn_wide.2 HC.out).mono ?_
    rintro e W5 ⟨rfl, hb⟩
    obtain ⟨r, hr⟩ : ∃ r, rdyK (befG g) s n = r := ⟨_, rfl⟩
    have HR := Lib.hid hr
    have HRL : Hid (r < lim) := Lib.hid (by rw [← hr]; exact rdyK_lt _ _ _ (by omega))
    rw [hr]
    clear hr cg0 cg1 csb hp0 HC
    have HBE : Hid (Below W4.heap.size W4 W5) := Lib.hid hb
    have HZ5 : Hid (p0 + 1 + 1 ≤ W5.heap.size) := Lib.hid (by have := hb.size; rw [HZ4.out] at this; exact this)
    clear hb
    gi_wp2_with fail
    refine ⟨trivial, ?_⟩
    gi_at_call 28
    refine (members_in _ _ _).mono ?_
    rintro e W6 ⟨rfl, hW6⟩
    obtain ⟨P0, hP0⟩ : ∃ P0, W5.heap.size = P0 := ⟨_, rfl⟩
    have HP0 : Hid (p0 + 1 < P0) := Lib.hid (by have := HZ5.out; omega)
    have HZ6 : Hid (W6.heap.size = P0 + 1) := Lib.hid (by rw [hW6]; simp [hP0])
    have hrb : Go.Boxed W6 P0 35 (.int .u64 (r : Int)) := by
      have h := Go.Boxed.new W5 35 (.int .u64 (r : Int))
      rw [hP0, ← hW6] at h; exact h
    have HLB6 : Hid (LgB w b0 n m c bm K p0 (P0 + 1) s q cnt1 1024 A D (fun z => left z && !z.sameKey (kU s)) ds (nextF G (dLeft (befG g) G (fun z => left (kU z))) n) W6) := Lib.hid (by
      have h0 := HLB.out (p0 + 1 + 1) (by omega)
      have h := h0.kept (W' := W5) (belowG HBE.out) (by simp)
      have h' := h.kept (W' := W6) (by rw [hW6]; exact World.grownBy_alloc _ _ none) (by simp)
      exact { h' with l2 := by have := HP0.out; omega })
    have HTZ : Hid (Tz W6) := Lib.hid (HT.out.below HLB6.out.bel (by rw [← Hb0.out]; exact h0))
    rw [hP0]
    clear hW6 hP0
    gi_wp2_with fail
    have hs6 : b0 ≤ W6.heap.size := by have := HLB6.out.bel.size; rw [Hb0.out] at this; exact this
    refine wpIn_rangeFunc_ownG rfl (by omega) (gf := 39) (lb := #[.pointer (some ⟨P0, 0, none⟩)]) rfl trivial (enters_of Tryd.func39 (by kernel_rfl) rfl)
      (members_stops 8 (by omega) P0 b0 r HRL.out W6 (by rw [← Hb0.out]; exact h0) hs6 hrb.cell HTZ.out (by rw [HZ6.out]; omega)) belowK_t (belowK_b hs6) (Below.refl _ _) (fun _ => rfl)
      (fun pre W => LgB w b0 n m c bm K p0 (P0 + 1) s q cnt1 (1024 + pre.length) A D (fun z => left z && !z.sameKey (kU s)) ds (foldG s q (nextF G (dLeft (befG g) G (fun z => left (kU z))) n) (nds pre)) W)
      (fun _ _ _ => False)
      (fun pre A' B' row hs hg hr => hs.kept hg (fun k e => by have := (hr k e).1; rw [HZ6.out] at this; exact this))
      (fun _ _ _ _ _ hs _ _ => hs)
      HLB6.out
      (fun x => { tmps := List.toArray (.agg #[.int .i64 (n : Int), .slice A m c] :: .map (some bm) :: .pointer (some ⟨b0, 0, none⟩) :: undef :: .map none :: .int .i64 0 :: .pointer (some ⟨b0 + 1 + 1, 0, none⟩) :: .pointer (some ⟨p0, 0, none⟩) :: .pointer (some ⟨p0 + 1, 0, none⟩) :: .int .u64 (r : Int) :: .int .i64 0 :: .int .i64 (x.1 : Int) :: .map (some (b0 + 1)) :: .map (some bm) :: .pointer (some ⟨b0 + 1 + 1 + 1, 0, none⟩) :: .tuple #[.bool true, .int .u64 (s : Int), .int .i64 (q : Int)] :: .bool true :: .tuple #[.int .u64 (s : Int), .int .i64 (q : Int)] :: .int .u64 (s : Int) :: .int .i64 (q : Int) :: .tuple #[.int .u64 (r : Int), .int .i64 0] :: .agg #[.int .i64 (n : Int), .slice A m c] :: .int .u64 (s : Int) :: .tuple #[.int .u64 (r : Int), .int .i64 0] :: .int .u64 (r : Int) :: .int .i64 0 :: .int .i64 0 :: .bool false :: u28 :: .int .u64 (r : Int) :: .func (.func 39) #[] #[.pointer (some ⟨P0, 0, none⟩)] :: .int .i64 (x.1 : Int) :: u32 :: u33 :: u34 :: u35 :: u36 :: u37 :: u38 :: u39 :: u40 :: u41 :: u42 :: u43 :: u44 :: u45 :: u46 :: u47 :: u48 :: u49 :: u50 :: undef :: []), defers := [] }) ?assign ?body ?done ?stop
    case assign =>
      intro l x W K hK
      gi_wp2
      exact hK
    case body =>
      rintro l pre x W hI hlt
      have HIW := Lib.hid hI
      have hcn := hI.nxt.cell
      have hcs := hI.sb.cell
      have hcq := hI.qb.cell
      have HAL : Hid (add s x.1 < lim) := Lib.hid (add_lt HSL.out x.2)
      have hor := or_spell2 HSL.out x.2
      have hx64 : (x.1 : Int) < 64 := by have := x.2; omega
      obtain ⟨K1, D1, ho, hD1, hK1⟩ := hI.own
      have HO := Lib.hid ho
      have HD1 := Lib.hid hD1
      have HMO : Hid (Most (foldG s q (nextF G (dLeft (befG g) G (fun z => left (kU z))) n) (nds pre)) (n * M + pre.length * q)) := Lib.hid (by
        have h := Most.fold (x := s) (c := q) (nds pre) (next_most (d := dLeft (befG g) G (fun z => left (kU z))) (n := n) HM.out)
        rw [List.length_map] at h; exact h)
      clear hI ho hD1
      have HFA := Lib.hid (fun (y : Nat) (hy : ((foldG s q (nextF G (dLeft (befG g) G (fun z => left (kU z))) n) (nds pre)) (add s x.1)).getD 0 = y) => lg_bound hn (show pre.length < 64 from hlt) HQM.out HMM.out HMO.out hy)
      have HKK : Hid (K1 < maxLen) := Lib.hid (by unfold maxLen; omega)
      gi_wp2_with (first
        | (gi_at_lookup; refine wpListIn_lookup_own_int _ rfl _ _ 66 rfl 35 3 .i64 keyedU Tryd.underlying66 Tryd.underlying3 (zeroI _) (b0 + 1) K1 _ rfl HO.out _ _ rfl (keyU HAL.out) ?_; intro cc hat hwc; obtain ⟨y, hy⟩ : ∃ y, ((foldG s q (nextF G (dLeft (befG g) G (fun z => left (kU z))) n) (nds pre)) (add s x.1)).getD 0 = y := ⟨_, rfl⟩; have hcy : cc = (y : Int) := (HD1.out.look HAL.out hat).trans (by rw [hy]); subst hcy; have HY := Lib.hid hy; have hyb := HFA.out y hy; clear hat hwc hy; have hyq : IntKind.i64.wrap ((y : Int) + (q : Int)) = ((y + q : Nat) : Int) := (by rw [IntWalk.i64_in _ (by omega)]; omega); have HMI : Hid (min ((y : Int) + (q : Int)) 1152921504606846977 = ((y + q : Nat) : Int)) := Lib.hid (by omega))
        | (gi_at_mapUpdate; refine wpListIn_mapUpdate_own _ rfl _ _ _ 66 rfl 35 3 keyedU Tryd.underlying66 _ (b0 + 1) K1 _ rfl HO.out HKK.out _ _ _ rfl rfl (keyU HAL.out) (.lit (.int .i64 ((y + q : Nat) : Int))) [] (by rw [HMI.out]; exact plainElem_int Tryd.underlying3 (by simp [Lit.wf]; exact ⟨by show (-9223372036854775808 : Int) ≤ _; omega, by show _ ≤ (9223372036854775807 : Int); omega⟩)) ?_; intro w2 hown1 hgrow1))
      have hD2 : LvD (D1.put (kU (add s x.1)) (.lit (.int .i64 ((y + q : Nat) : Int)))) (foldG s q (nextF G (dLeft (befG g) G (fun z => left (kU z))) n) (nds (pre ++ [x]))) := by
        have h := HD1.out.put HO.out.isMap (add s x.1) (y + q)
        rw [nds_snoc, foldG_snoc]
        unfold DiP.stepG
        rw [HY.out]
        exact h
      have hsz : b0 + 1 < W.heap.size := HO.out.lt
      exact ⟨KeepsFrom.of_grownBy hgrow1 (fun k e => by injection e; rw [HZ6.out]; have := HP0.out; have := HLB6.out.l1; omega), (Below.refl _ W).grown hgrow1 (by omega) (fun k e => by injection e; omega), HIW.out.stored hgrow1 hown1 hD2 (by rw [List.length_append]; simp; omega)⟩
    case done =>
      rintro D' xs W hDD hS hI hK
      have HIW := Lib.hid hI
      have HKD : Hid (W.heap[D']? = some (.deferred (some []))) := Lib.hid hK
      have HDD : Hid (P0 + 1 ≤ D') := Lib.hid (by rw [← HZ6.out]; exact hDD)
      have hcn := hI.nxt.cell
      have hGN : foldG s q (nextF G (dLeft (befG g) G (fun z => left (kU z))) n) (nds xs) = nextF G (dLeft (befG g) G (fun z => left (kU z) && !(kU z).sameKey (kU s))) n := by
        have h := fold_set (bef := befG g) (F := G) (n := n) (x := s) (left := fun z => left (kU z)) (by omega) HSL.out (by rw [HQ.out]; rfl) HLX.out
        rw [HQ.out, HR.out, ← hS] at h
        simp only [sameU]
        exact h
      have HGN := Lib.hid hGN
      obtain ⟨K1, D1, ho, hD1, hK1⟩ := hI.own
      rw [hGN] at hD1
      have hKey : ∀ s', (nextF G (dLeft (befG g) G (fun z => left (kU z) && !(kU z).sameKey (kU s))) n s').isSome = true → s' < 1024 := fun s' h => by
        have h1 := (inS_iff (by omega)).1 (next_inS (by omega) HG.out (fun x v hd => dLeft_some hd) s' h)
        have h2 : (2 : Nat) ^ n ≤ 2 ^ 10 := Nat.pow_le_pow_right (by omega) hn
        omega
      have hsize := OwnM.size ho hD1 hKey
      have HO := Lib.hid ho
      have HD1 := Lib.hid hD1
      obtain ⟨sz, hsz⟩ : ∃ sz, Maps.size D1 = sz := ⟨_, rfl⟩
      have HSZ := Lib.hid hsz
      have hd0 : decide ((65536 : Int) < (sz : Int)) = false := decide_eq_false (by omega)
      have HS1 : Hid (sz ≤ 1024) := Lib.hid (by omega)
      clear hI hS hK hDD hGN ho hD1 hKey hsize hsz
      gi_wp2_with (gi_at_len; refine wpListIn_len_own _ rfl _ 66 rfl 35 3 Tryd.underlying66 _ (b0 + 1) K1 D1 rfl HO.out ?_; rw [HSZ.out])
      have hlt2 : W.rangeLeft bm (b0 + 1 + 1 + 1) < wr.rangeLeft bm (b0 + 1 + 1 + 1) := by rw [HIW.out.rng.left_eq, HLW.out.rng.left_eq]; exact HLTC.out
      refine ⟨.mk _ _ _ _ _ _ _ _ _ _ _ _ _ _ _ _ _ _ _ _ _ _ _ _ _ _ _ _ _ _ _ _ _ _ _ _ _ _ _ _ _ (D' :: ds) _ cnt1 W { bel := HIW.out.bel, box := HIW.out.box, nxt := HIW.out.nxt, rng := HIW.out.rng, own := ⟨_, D1, HO.out.tight, HD1.out, by rw [HSZ.out]; exact HS1.out⟩, nd := ?_, mks := ?_ }, hlt2⟩
      · rw [List.nodup_cons]
        exact ⟨fun h => by have h1 := (HIW.out.mks D' h).2.2; have := HIW.out.l2; have := HDD.out; omega, HLW.out.nd⟩
      · intro E hE
        rw [List.mem_cons] at hE
        rcases hE with rfl | hE
        · exact ⟨HKD.out, by have := HIW.out.l1; have := HIW.out.l2; have := HDD.out; omega⟩
        · exact ⟨(HIW.out.mks E hE).1, (HIW.out.mks E hE).2.1⟩
    case stop =>
      rintro D' cx pre W _ _ h _
      exact h.elim
end Go.Proofs.YtfcabdgidlnljaaDoor
