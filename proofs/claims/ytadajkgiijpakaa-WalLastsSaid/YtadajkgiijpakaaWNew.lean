/-
  CONTRACTS of package wal, over this translation: newest.
-/
import Derived.Test.YtadajkgiijpakaaWNewP
import Derived.Test.YtadajkgiijpakaaInvI
namespace Go.Proofs.Ytadajkgiijpakaa
open Go.RowKit Go.Shelf
open ByteP
set_option linter.unusedVariables false
set_option linter.unusedSimpArgs false
set_option maxRecDepth 100000
attribute [local go_sem] Oper.semAt_some
/-- The results' cells. -/
def nwC (W : World) (s0 db : Nat) (p : Option Addr) (b e : Int) : Prop := W.cell? ⟨s0, 0, none⟩ = some (.pointer (some ⟨db, 0, none⟩)) ∧ W.cell? ⟨s0 + 1, 0, none⟩ = some (.pointer p) ∧ W.cell? ⟨s0 + 2, 0, none⟩ = some (.int .i64 b) ∧ W.cell? ⟨s0 + 3, 0, none⟩ = some (.int .i64 e) ∧
  W.frozen? ⟨s0 + 1, 0, none⟩ = false ∧ W.frozen? ⟨s0 + 2, 0, none⟩ = false ∧ W.frozen? ⟨s0 + 3, 0, none⟩ = false
theorem nwC.kept {W W' : World} {s0 db : Nat} {p : Option Addr} {b e : Int} {row : Option Nat} (h : nwC W s0 db p b e) (hg : W.grownBy W' row) (hr : ∀ r, row = some r → ∃ o : Obj, W.heap[r]? = some o ∧ o.isCells = false) : nwC W' s0 db p b e :=
  ⟨cell_kept h.1 hg hr, cell_kept h.2.1 hg hr, cell_kept h.2.2.1 hg hr, cell_kept h.2.2.2.1 hg hr, (frozen_kept h.2.1 hg hr).trans h.2.2.2.2.1, (frozen_kept h.2.2.1 hg hr).trans h.2.2.2.2.2.1, (frozen_kept h.2.2.2.1 hg hr).trans h.2.2.2.2.2.2⟩
theorem nwC.below {W W' : World} {s0 db n : Nat} {p : Option Addr} {b e : Int} (h : nwC W s0 db p b e) (hb : Below n W W') (hn : s0 + 3 < n) : nwC W' s0 db p b e :=
  ⟨(hb.cell (p := ⟨s0, 0, none⟩) (by show s0 < n; omega)).trans h.1, (hb.cell (p := ⟨s0 + 1, 0, none⟩) (by show s0 + 1 < n; omega)).trans h.2.1, (hb.cell (p := ⟨s0 + 2, 0, none⟩) (by show s0 + 2 < n; omega)).trans h.2.2.1, (hb.cell (p := ⟨s0 + 3, 0, none⟩) (by show s0 + 3 < n; omega)).trans h.2.2.2.1,
    (World.frozen?_of_block (hb.block (s0 + 1) (by omega))).trans h.2.2.2.2.1, (World.frozen?_of_block (hb.block (s0 + 2) (by omega))).trans h.2.2.2.2.2.1, (World.frozen?_of_block (hb.block (s0 + 3) (by omega))).trans h.2.2.2.2.2.2⟩
theorem Row.lower {w : World} {M : Nat → Prop} {B0 B1 : Nat} {v : Value} {rs : List (List Int)} (h : Row w M B0 v rs) (hB : B1 ≤ B0) : Row w M B1 v rs := by
  obtain ⟨vals, ho, hj⟩ := h.ex
  refine ⟨⟨vals, ⟨ho.1, ?_⟩, hj⟩, h.nd⟩
  rcases ho.2 with h1 | ⟨g, cap, cur, hv, hbg, r⟩
  · exact .inl h1
  · exact .inr ⟨g, cap, cur, hv, Nat.le_trans hB hbg, r⟩
theorem found_fin {w w1 w2 X5 : World} {lb : Nat} {v : LgV} {bs : List Int} {rs : List (List Int)} (hs : w.heap.size ≤ w1.heap.size) (hs2 : w1.heap.size ≤ w2.heap.size) (hF : Fr w2 X5 (fun b => b < w1.heap.size)) (hlb : w2.heap.size ≤ lb) (hcell : X5.heap[lb]? = some (.cells (cellsL v) 83 (0, 0)))
    (hbase : RdK w2 (fun b => b < w1.heap.size ∨ v.rv.ownBlock = some b) v.bA v.bn bs) (hrow : Row w2 (fun b => b < w1.heap.size) w1.heap.size v.rv rs) (hb : RecOK bs) (hr : ∀ x, x ∈ rs → RecOK x) : Lg X5 (fun b => b < w.heap.size) w.heap.size lb v bs rs := by
  refine ⟨heapK_lt hcell, by omega, by show ¬ lb < w.heap.size; omega, hcell, ?_, hb.1, hb.2, ?_, hr⟩
  · refine hbase.turn ⟨hF.os, hF.tape, hF.output, hF.size, fun b hb hn => hF.block b hb (fun h => hn (.inl h))⟩ (fun b hb => ?_)
    rcases hb with (h1 | h1) | h1
    · left; left; omega
    · right; omega
    · exact .inl (.inr h1)
  · exact (hrow.lower hs).turn hF (fun b hb => by
      rcases hb with h1 | h1
      · left; omega
      · right; omega)
structure NwSt (X0 X1 X3 X4 X5 : World) (db lb pb bn bc rn rc fn c1 : Nat) (k q z : Int) (bA rA A1 : Option Addr) (b0 b1 b2 b3 b4 b5 b6 b7 b8 b9 b10 b11 b12 : Bool) (v32 v33 v34 v35 v36 v37 v38 v39 v40 v41 : Value) (w' : World) : Prop where
  hw : w' = if b12 then X5 else if b11 then X4 else if b10 then X3 else if b4 then X1 else X0
  h0 : b0 = true → v32 = .pointer (some ⟨db, 0, none⟩)
  h1 : b1 = true → v33 = .int .i64 k
  h2 : b2 = true → v34 = .agg #[.slice bA bn bc, .slice rA rn rc, .int .i64 q]
  h3 : b3 = true → v35 = .agg #[.pointer (some ⟨db, 0, none⟩), .int .i64 k, .slice bA bn bc, .slice rA rn rc, .int .i64 q, .bool false]
  h4 : b4 = true → v36 = .pointer (some ⟨lb, 0, none⟩)
  h5 : b5 = true → v37 = .slice A1 fn c1
  h6 : b6 = true → v38 = .int .i64 (fn : Int)
  h7 : b7 = true → v39 = .pointer (some ⟨pb, 2, none⟩)
  h8 : b8 = true → v40 = .int .i64 q
  h9 : b9 = true → v41 = .int .i64 z
  o3 : b3 = true → b0 = true ∧ b1 = true ∧ b2 = true
  o4 : b4 = true → b3 = true
  o10 : b10 = true → b4 = true
  o11 : b11 = true → b5 = true ∧ b6 = true ∧ b7 = true ∧ b8 = true ∧ b9 = true ∧ b10 = true
  o12 : b12 = true → b11 = true
inductive NwJ (X0 X1 X3 X4 X5 : World) (db lb pb bn bc rn rc fn c1 : Nat) (k q z : Int) (bA rA A1 : Option Addr) (p0 p1 p2 p3 p4 p5 p6 p7 p8 p9 p10 p11 p12 p13 p14 p15 p16 p17 p18 p19 p20 p21 p22 p23 p24 p25 p26 p27 p28 p29 p30 p31 p42 p43 : Value) : Array Bool → Act → World → Prop where
  | mk (b0 b1 b2 b3 b4 b5 b6 b7 b8 b9 b10 b11 b12 : Bool) (v32 v33 v34 v35 v36 v37 v38 v39 v40 v41 : Value) (w' : World) : NwSt X0 X1 X3 X4 X5 db lb pb bn bc rn rc fn c1 k q z bA rA A1 b0 b1 b2 b3 b4 b5 b6 b7 b8 b9 b10 b11 b12 v32 v33 v34 v35 v36 v37 v38 v39 v40 v41 w' → NwJ X0 X1 X3 X4 X5 db lb pb bn bc rn rc fn c1 k q z bA rA A1 p0 p1 p2 p3 p4 p5 p6 p7 p8 p9 p10 p11 p12 p13 p14 p15 p16 p17 p18 p19 p20 p21 p22 p23 p24 p25 p26 p27 p28 p29 p30 p31 p42 p43 #[b0, b1, b2, b3, b4, b5, b6, b7, b8, b9, b10, b11, b12] { tmps := List.toArray (p0 :: p1 :: p2 :: p3 :: p4 :: p5 :: p6 :: p7 :: p8 :: p9 :: p10 :: p11 :: p12 :: p13 :: p14 :: p15 :: p16 :: p17 :: p18 :: p19 :: p20 :: p21 :: p22 :: p23 :: p24 :: p25 :: p26 :: p27 :: p28 :: p29 :: p30 :: p31 :: v32 :: v33 :: v34 :: v35 :: v36 :: v37 :: v38 :: v39 :: v40 :: v41 :: p42 :: p43 :: []), defers := [] } w'
section
variable {w : World} {db mb K : Nat} {n : Nm} {F : Int → Option Fi}
set_option maxHeartbeats 8000000 in
theorem newest_any (h : Dk w db mb K n F) (hd : n.down = false) {A : Option Addr} {m c : Nat} {ns : List Int} (hns : Rd w w.heap.size A m ns) (hm : m ≤ 1099511627776) (ha : Asc ns) (hin : ∀ x, x ∈ ns → (F x).isSome = true) (hsm : ∀ k f, F k = some f → f.n ≤ 1000000000) :
    Calls Try.prog 38 #[.pointer (some ⟨db, 0, none⟩), .slice A m c] w fun e w' => ∃ (lb : Nat) (b : Int), e = .returned (.tuple #[.pointer (some ⟨lb, 0, none⟩), .int .i64 b, .int .i64 0]) ∧ w.heap.size ≤ lb ∧ Below w.heap.size w w' ∧
      (((∀ x, x ∈ ns → ¬ whole F x) ∧ b = 0 ∧ NoLog w' lb) ∨ (∃ k, k ∈ ns ∧ (∀ x, x ∈ ns → k < x → ¬ whole F x) ∧ Found w w' db F k lb b)) := by
  have H := Lib.hid h
  have HNS := Lib.hid hns
  have HA := Lib.hid ha
  have HIN := Lib.hid hin
  have HSM := Lib.hid hsm
  have hlen := hns.1
  clear h hns ha hin hsm
  refine (callsIn_wide (n := 8)).1 ?_
  refine callsIn_of_wp_marks Try.func38 rfl trivial ?_ rfl
  simp only [Try.ntmps38, List.size_toArray, List.length_cons, List.length_nil, Nat.reduceAdd, Nat.reduceSub, Array.replicate_succ, Array.replicate_zero, List.push_toArray, List.append_toArray, List.nil_append, List.cons_append]
  obtain ⟨s0, hs0⟩ : ∃ s0, w.heap.size = s0 := ⟨_, rfl⟩
  gi_wp2_with (refine ⟨trivial, ?_⟩; gi_at_call 50; refine (backward_in _ A m c _).mono ?_; rintro e w' ⟨rfl, rfl⟩)
  obtain ⟨W0, hW0⟩ : ∃ W0, ((((w.alloc (.cells #[.pointer (some ⟨db, 0, none⟩)] 24)).alloc (.cells #[.pointer none] 41)).alloc (.cells #[.int .i64 0] 3)).alloc (.cells #[.int .i64 0] 29)).alloc (.cells #[.slice A m c] 31) = W0 := ⟨_, rfl⟩
  have hz0 : W0.heap.size = s0 + 5 := by rw [← hW0, ← hs0]; simp
  have hb0 : Below s0 w W0 := by
    rw [← hW0, ← hs0]
    exact (((((Below.refl _ w).alloc (Nat.le_refl _) _).alloc (by simp) _).alloc (by simp; omega) _).alloc (by simp; omega) _).alloc (by simp; omega) _
  have hcell : ∀ (j : Nat) (W : World) (o : Obj) (z : Nat), W.heap.size = z → (W.alloc o).heap[z]? = some o := fun j W o z hz => by rw [← hz]; exact heap_alloc_new W o
  have hC0 : nwC W0 s0 db none 0 0 := by
    have h0 := heap_alloc_new w (.cells #[.pointer (some ⟨db, 0, none⟩)] 24)
    have h1 := heap_alloc_new (w.alloc (.cells #[.pointer (some ⟨db, 0, none⟩)] 24)) (.cells #[.pointer none] 41)
    have h2 := heap_alloc_new ((w.alloc (.cells #[.pointer (some ⟨db, 0, none⟩)] 24)).alloc (.cells #[.pointer none] 41)) (.cells #[.int .i64 0] 3)
    have h3 := heap_alloc_new (((w.alloc (.cells #[.pointer (some ⟨db, 0, none⟩)] 24)).alloc (.cells #[.pointer none] 41)).alloc (.cells #[.int .i64 0] 3)) (.cells #[.int .i64 0] 29)
    simp only [World.size_alloc] at h1 h2 h3
    have e0 : W0.heap[s0]? = some (.cells #[.pointer (some ⟨db, 0, none⟩)] 24 (0, 0)) := by
      rw [← hW0, ← hs0, Below.heap_alloc _ _ _ (by simp <;> omega), Below.heap_alloc _ _ _ (by simp <;> omega), Below.heap_alloc _ _ _ (by simp <;> omega), Below.heap_alloc _ _ _ (by simp)]; exact h0
    have e1 : W0.heap[s0 + 1]? = some (.cells #[.pointer none] 41 (0, 0)) := by
      rw [← hW0, ← hs0, Below.heap_alloc _ _ _ (by simp <;> omega), Below.heap_alloc _ _ _ (by simp <;> omega), Below.heap_alloc _ _ _ (by simp)]; exact h1
    have e2 : W0.heap[s0 + 2]? = some (.cells #[.int .i64 0] 3 (0, 0)) := by
      rw [← hW0, ← hs0, Below.heap_alloc _ _ _ (by simp <;> omega), Below.heap_alloc _ _ _ (by simp)]; exact h2
    have e3 : W0.heap[s0 + 3]? = some (.cells #[.int .i64 0] 29 (0, 0)) := by
      rw [← hW0, ← hs0, Below.heap_alloc _ _ _ (by simp)]; exact h3
    exact ⟨cellK_of_heap e0 rfl, cellK_of_heap e1 rfl, cellK_of_heap e2 rfl, cellK_of_heap e3 rfl, freeK_of_heap e1, freeK_of_heap e2, freeK_of_heap e3⟩
  have hbw : W0.cell? ⟨s0 + 4, 0, none⟩ = some (.slice A m c) := by
    have h4 := heap_alloc_new ((((w.alloc (.cells #[.pointer (some ⟨db, 0, none⟩)] 24)).alloc (.cells #[.pointer none] 41)).alloc (.cells #[.int .i64 0] 3)).alloc (.cells #[.int .i64 0] 29)) (.cells #[.slice A m c] 31)
    simp only [World.size_alloc] at h4
    have e4 : W0.heap[s0 + 4]? = some (.cells #[.slice A m c] 31 (0, 0)) := by rw [← hW0, ← hs0]; exact h4
    exact cellK_of_heap e4 rfl
  have hP : ∀ i, i < ns.length → (F (ix ns i)).isSome = true := fun i hi => HIN.out _ (ix_mem hi)
  have hR0 : Rd W0 (s0 + 5) A m ns := (HNS.out.below (by rw [hs0]; exact hb0)).more (by omega)
  try simp only [World.size_alloc]
  try simp only [hs0]
  have HZ0 := Lib.hid hz0
  have HB0 := Lib.hid hb0
  rw [show s0 + 1 + 1 = s0 + 2 by omega, show s0 + 2 + 1 = s0 + 3 by omega, show s0 + 3 + 1 = s0 + 4 by omega, hW0]
  refine wpIn_rangeFunc_ownF rfl (by omega) (gf := 59) (lb := #[.pointer (some ⟨s0 + 4, 0, none⟩)]) rfl trivial (enters_of Try.func59 (by kernel_rfl) rfl)
    (backward_stops (P := fun k => (F k).isSome = true) 7 (by omega) (s0 + 4) (s0 + 5) A m c ns W0 hP hbw hR0 (by omega) (by omega) hm) belowK_t (belowK_b (by omega)) (Below.refl _ _) (fun _ => rfl)
    (fun pre W => (nwC W s0 db none 0 0 ∧ (∀ x, x ∈ bwv pre → ¬ whole F x) ∧ s0 + 5 ≤ W.heap.size) ∧ Below s0 w W)
    (fun c pre W => (c = .ret ∧ ∃ (p : List Int) (k : Int) (lb : Nat) (b : Int), bwv pre = p ++ [k] ∧ (∀ x, x ∈ p → ¬ whole F x) ∧ s0 ≤ lb ∧ nwC W s0 db (some ⟨lb, 0, none⟩) b 0 ∧ Found w W db F k lb b) ∧ Below s0 w W)
    (OwnFrom.and (Own.from (fun s A B row hs hg hr => ⟨hs.1.kept hg hr, hs.2.1, Nat.le_trans hs.2.2 hg.size⟩) _) (ownFrom_below (by omega) (by omega)))
    (fun c => OwnFrom.and (Own.from (fun s A B row hs hg hr => by
      obtain ⟨e, p, k, lb, b, h1, h2, h3, h4, h5⟩ := hs
      exact ⟨e, p, k, lb, b, h1, h2, h3, h4.kept hg hr, h5.nc hg hr⟩) _) (ownFrom_below (by omega) (by omega)))
    ⟨⟨hC0, (fun x hx => by cases hx), by omega⟩, hb0⟩
    (fun x => { tmps := #[.pointer (some ⟨db, 0, none⟩), .slice A m c, .pointer (some ⟨s0, 0, none⟩), undef, .pointer (some ⟨s0 + 1, 0, none⟩), .pointer (some ⟨s0 + 2, 0, none⟩), .pointer (some ⟨s0 + 3, 0, none⟩), undef, .int .i64 x.1.2, undef, undef, undef, undef, .slice A m c, .func (.func 59) #[] #[.pointer (some ⟨s0 + 4, 0, none⟩)], .int .i64 (x.1.1 : Int), .int .i64 x.1.2, undef, undef, undef, undef, undef, undef, undef, undef, undef, undef, undef, undef, undef, undef, undef, undef, undef, undef, undef, undef, undef, undef, undef, undef, undef, undef, undef], defers := [] }) ?assign ?body ?done ?stop
  case assign =>
    intro l x W K hK
    gi_wp2
    exact hK
  case body =>
    rintro l pre x W ⟨⟨hC, hno, hz5⟩, hB⟩ hlt
    have HZ5 := Lib.hid hz5
    obtain ⟨f, hf⟩ := Option.isSome_iff_exists.1 x.2
    have HSN := Lib.hid (bwv_snoc pre x)
    obtain ⟨k, hk⟩ : ∃ k, x.1.2 = k := ⟨_, rfl⟩
    rw [hk] at hf HSN ⊢
    have hfk : F k = some f := hf
    have hsW : s0 + 3 < W.heap.size := block_lt_of_cell hC.2.2.2.1
    have HSW := Lib.hid hsW
    have HB := Lib.hid hB
    have HNO := Lib.hid hno
    have HFK := Lib.hid hfk
    have HDW := Lib.hid (H.out.below (w' := W) (by rw [hs0]; exact hB))
    have HBF : Hid (Bytes f.bs) := Lib.hid (H.out.good k f hfk).2.2.2.1
    have HFL : Hid (f.n ≤ 1000000000 ∧ f.bs.length = f.n) := Lib.hid ⟨HSM.out k f hfk, (H.out.own k f hfk).len⟩
    have HREAD := Lib.hid (read_some HDW.out hd hfk)
    have HC := Lib.hid hC
    have q0 := hC.1
    clear hB hno hf hfk hC
    gi_wp2_with (first
      | (refine ⟨trivial, ?_⟩; gi_at_call 13; refine (CallsIn.inRound l (callsIn_wide.2 HREAD.out)).mono ?_; rintro e w1 ⟨A1, c1, rfl, ho1, hb1⟩; (have hcap : f.n ≤ c1 := by rcases Nat.eq_zero_or_pos f.n with h0 | h0; (· omega); (· exact ho1.cap h0)); (have hrd1 : RdY w1 w1.heap.size A1 f.n f.bs := by obtain ⟨A9, c9, hv, hr⟩ := ho1.shape; injection hv with e1 e2 e3; subst e1; exact hr); (have HRD := Lib.hid (read_any (c := c1) hrd1 HBF.out hcap HFL.out.1 (Nat.le_refl _))); (have HB1 := Lib.hid hb1); clear HREAD ho1 hb1 hcap hrd1)
      | (refine ⟨trivial, ?_⟩; gi_at_call 51; refine (CallsIn.inRound l (callsIn_wide.2 HRD.out)).mono ?_; rintro e w2 ⟨r, bA, bn, bc, rv, rfl, hrs, hbase, hrow, hb2, hle, h8⟩; obtain ⟨rA, rc, hrv⟩ := hrow.shape; subst hrv; (have HRS := Lib.hid hrs); (have HBASE := Lib.hid hbase); (have HROW := Lib.hid hrow); (have HB2 : Hid (Below W.heap.size W w2) := Lib.hid (HB1.out.trans (hb2.mono HB1.out.size))); (have HLE := Lib.hid (And.intro hle h8)); (have HLS : Hid (w1.heap.size ≤ w2.heap.size ∧ W.heap.size ≤ w1.heap.size) := Lib.hid ⟨hb2.size, HB1.out.size⟩); clear HRD hrs hbase hrow hb2 hle h8))
    · have hr0 : 0 < r := by first | assumption | (simp_all; done)
      have HSUB : Hid (IntKind.i64.wrap ((f.n : Int) - (atN f.bs r : Nat)) = (f.n : Int) - (atN f.bs r : Nat)) := Lib.hid (IntWalk.i64_in _ (by have := HLE.out; have := HFL.out; omega))
      have HS2 : Hid (s0 + 3 < w2.heap.size) := Lib.hid (by have := HB2.out.size; omega)
      have hC2 : nwC w2 s0 db none 0 0 := HC.out.below HB2.out (by have := HS2.out; omega)
      obtain ⟨q, hq⟩ : ∃ q : Int, (atN f.bs r : Nat) = q := ⟨_, rfl⟩
      obtain ⟨rn, hrn⟩ : ∃ rn, (rsOf f.bs r).length = rn := ⟨_, rfl⟩
      obtain ⟨fn, hfn⟩ : ∃ fn, f.n = fn := ⟨_, rfl⟩
      have HQ := Lib.hid (And.intro hq (And.intro hrn hfn))
      rw [hq, hfn] at HSUB
      rw [hrn, hq, hfn]
      rw [show decide (0 < r) = true from decide_eq_true hr0]
      clear hq hrn hfn
      obtain ⟨X0, hX0⟩ : ∃ X0, ({ (w2.alloc (.cells #[.slice bA bn bc, .slice rA rn rc, .int .i64 q] 81)) with drawn := (w2.alloc (.cells #[.slice bA bn bc, .slice rA rn rc, .int .i64 q] 81)).drawn + 1 } : World) = X0 := ⟨_, rfl⟩
      have hbX : Below w2.heap.size w2 X0 := by rw [← hX0]; exact below_drewN ((Below.refl _ _).alloc (Nat.le_refl _) _) 1
      have hC3 : nwC X0 s0 db none 0 0 := hC2.below hbX HS2.out
      have hzX : X0.heap.size = w2.heap.size + 1 := by rw [← hX0]; simp
      obtain ⟨lb, hlb⟩ : ∃ lb, X0.heap.size = lb := ⟨_, rfl⟩
      obtain ⟨pb, hpb⟩ : ∃ pb, w2.heap.size = pb := ⟨_, rfl⟩
      obtain ⟨X1, hX1⟩ : ∃ X1, Hid (X0.alloc (.cells #[.pointer (some ⟨db, 0, none⟩), .int .i64 k, .slice bA bn bc, .slice rA rn rc, .int .i64 q, .bool false] 83) = X1) := ⟨_, Lib.hid rfl⟩
      have hbX1 : Below lb X0 X1 := by rw [← hX1.out, ← hlb]; exact (Below.refl _ _).alloc (Nat.le_refl _) _
      have hC4 : nwC X1 s0 db none 0 0 := hC3.below hbX1 (by have := HS2.out; omega)
      have hx3 : X0.heap[pb]? = some (.cells #[.slice bA bn bc, .slice rA rn rc, .int .i64 q] 81 (0, 0)) := by rw [← hX0, ← hpb]; exact heap_alloc_new w2 (.cells #[.slice bA bn bc, .slice rA rn rc, .int .i64 q] 81)
      have hx4 : X1.heap[pb]? = some (.cells #[.slice bA bn bc, .slice rA rn rc, .int .i64 q] 81 (0, 0)) := (hbX1.block pb (by omega)).trans hx3
      obtain ⟨X3, hX3⟩ : ∃ X3, Hid (X1.setCell ⟨s0 + 1, 0, none⟩ (.pointer (some ⟨lb, 0, none⟩)) = X3) := ⟨_, Lib.hid rfl⟩
      have hF3 : Fr X1 X3 (fun b => b = s0 + 1) := by rw [← hX3.out]; exact Fr.setCell X1 (fun b => b = s0 + 1) (p := ⟨s0 + 1, 0, none⟩) rfl _
      have hx5 : X3.heap[pb]? = some (.cells #[.slice bA bn bc, .slice rA rn rc, .int .i64 q] 81 (0, 0)) := (hF3.block pb (by have := hbX1.size; omega) (by have := HS2.out; omega)).trans hx4
      have a0 := cellK_of_heap hx3 (i := 0) (x := .slice bA bn bc) rfl
      have a1 := cellK_of_heap hx3 (i := 1) (x := .slice rA rn rc) rfl
      have a2 := cellK_of_heap hx3 (i := 2) (x := .int .i64 q) rfl
      have b2 := cellK_of_heap hx4 (i := 2) (x := .int .i64 q) rfl
      have c2' := cellK_of_heap hx5 (i := 2) (x := .int .i64 q) rfl
      obtain ⟨yd0, yd1, yd2, yd3, g1, g2, g3⟩ := hC3
      have HC4 := Lib.hid hC4
      obtain ⟨e0, e1, e2, e3, j1, j2, j3⟩ := hC4
      obtain ⟨X4, hX4⟩ : ∃ X4, Hid (X3.setCell ⟨s0 + 2, 0, none⟩ (.int .i64 ((fn : Int) - q)) = X4) := ⟨_, Lib.hid rfl⟩
      obtain ⟨X5, hX5⟩ : ∃ X5, Hid (X4.setCell ⟨s0 + 3, 0, none⟩ (.int .i64 0) = X5) := ⟨_, Lib.hid rfl⟩
      have hl2 : s0 + 2 < X1.heap.size ∧ s0 + 3 < X1.heap.size := by have := HS2.out; have := hbX1.size; omega
      have k2 : X3.cell? ⟨s0 + 2, 0, none⟩ = some (.int .i64 0) := (World.cell?_of_block (a := ⟨s0 + 2, 0, none⟩) (hF3.block (s0 + 2) hl2.1 (by omega))).trans e2
      have k3 : X3.cell? ⟨s0 + 3, 0, none⟩ = some (.int .i64 0) := (World.cell?_of_block (a := ⟨s0 + 3, 0, none⟩) (hF3.block (s0 + 3) hl2.2 (by omega))).trans e3
      have l2 : X3.frozen? ⟨s0 + 2, 0, none⟩ = false := (World.frozen?_of_block (a := ⟨s0 + 2, 0, none⟩) (hF3.block (s0 + 2) hl2.1 (by omega))).trans j2
      have l3 : X3.frozen? ⟨s0 + 3, 0, none⟩ = false := (World.frozen?_of_block (a := ⟨s0 + 3, 0, none⟩) (hF3.block (s0 + 3) hl2.2 (by omega))).trans j3
      have k1 : X3.cell? ⟨s0 + 1, 0, none⟩ = some (.pointer (some ⟨lb, 0, none⟩)) := by rw [← hX3.out]; exact World.cell?_setCell_same' _ _ _ (by rw [e1]; rfl)
      have hF4 : Fr X3 X4 (fun b => b = s0 + 2) := by rw [← hX4.out]; exact Fr.setCell X3 (fun b => b = s0 + 2) (p := ⟨s0 + 2, 0, none⟩) rfl _
      have hl3 : s0 + 1 < X3.heap.size ∧ s0 + 3 < X3.heap.size := ⟨block_lt_of_cell k1, block_lt_of_cell k3⟩
      have m3 : X4.cell? ⟨s0 + 3, 0, none⟩ = some (.int .i64 0) := (World.cell?_of_block (a := ⟨s0 + 3, 0, none⟩) (hF4.block (s0 + 3) hl3.2 (by omega))).trans k3
      have n3 : X4.frozen? ⟨s0 + 3, 0, none⟩ = false := (World.frozen?_of_block (a := ⟨s0 + 3, 0, none⟩) (hF4.block (s0 + 3) hl3.2 (by omega))).trans l3
      have m1 : X4.cell? ⟨s0 + 1, 0, none⟩ = some (.pointer (some ⟨lb, 0, none⟩)) := (World.cell?_of_block (a := ⟨s0 + 1, 0, none⟩) (hF4.block (s0 + 1) hl3.1 (by omega))).trans k1
      have m2 : X4.cell? ⟨s0 + 2, 0, none⟩ = some (.int .i64 ((fn : Int) - q)) := by rw [← hX4.out]; exact World.cell?_setCell_same' _ _ _ (by rw [k2]; rfl)
      have hF5 : Fr X4 X5 (fun b => b = s0 + 3) := by rw [← hX5.out]; exact Fr.setCell X4 (fun b => b = s0 + 3) (p := ⟨s0 + 3, 0, none⟩) rfl _
      have HEND : Hid ((Below W.heap.size W X1) ∧ Fr X1 X3 (fun b => b = s0 + 1) ∧ Fr X3 X4 (fun b => b = s0 + 2) ∧ Fr X4 X5 (fun b => b = s0 + 3)) := Lib.hid ⟨(HB2.out.trans (hbX.mono HB2.out.size)).trans (hbX1.mono (by rw [← hlb]; exact Nat.le_trans HB2.out.size hbX.size)), hF3, hF4, hF5⟩
      have HBX : Hid (Below w2.heap.size w2 X1) := Lib.hid (hbX.trans (hbX1.mono (by rw [← hlb]; exact hbX.size)))
      have HM := Lib.hid (And.intro m1 (And.intro m2 m3))
      rw [hpb]
      have HX01 := Lib.hid (And.intro hlb (And.intro hpb hzX))
      have hsub := HSUB.out
      clear q0 hC2 hbX hbX1 hx3 hx4 hx5 hF3 hF4 hF5 hzX hpb
      refine wpIn_region_inv (by kernel_rfl) (I := NwJ X0 X1 X3 X4 X5 db lb pb bn bc rn rc fn c1 k q ((fn : Int) - q) bA rA A1 _ _ _ _ _ _ _ _ _ _ _ _ _ _ _ _ _ _ _ _ _ _ _ _ _ _ _ _ _ _ _ _ _ _) (.mk false false false false false false false false false false false false false _ _ _ _ _ _ _ _ _ _ _ ⟨hX0, nofun, nofun, nofun, nofun, nofun, nofun, nofun, nofun, nofun, nofun, nofun, nofun, nofun, nofun, nofun⟩) ?step ?fin
      case step =>
        rintro lq a' w' ix ⟨b0, b1, b2, b3, b4, b5, b6, b7, b8, b9, b10, b11, b12, v32, v33, v34, v35, v36, v37, v38, v39, v40, v41, _, HT⟩ hi
        obtain ⟨hi_, hib⟩ := ready_lt hi
        have HTH := Lib.hid HT
        match ix, hi_, hi, hib with
        | 0, _, hi, hib =>
          have f0 : b0 = false := by simpa using hib
          have f3 : b3 = false := by
            cases e : b3 with
            | false => rfl
            | true =>
              have h := (HT.o3 e).1
              rw [f0] at h
              cases h
          have n3 : ¬ b3 = true := by simp [f3]
          have f4 : b4 = false := by
            cases e : b4 with
            | false => rfl
            | true =>
              have h := (HT.o4 e)
              rw [f3] at h
              cases h
          have n4 : ¬ b4 = true := by simp [f4]
          have f10 : b10 = false := by
            cases e : b10 with
            | false => rfl
            | true =>
              have h := (HT.o10 e)
              rw [f4] at h
              cases h
          have n10 : ¬ b10 = true := by simp [f10]
          have f11 : b11 = false := by
            cases e : b11 with
            | false => rfl
            | true =>
              have h := (HT.o11 e).2.2.2.2.2
              rw [f10] at h
              cases h
          have n11 : ¬ b11 = true := by simp [f11]
          have f12 : b12 = false := by
            cases e : b12 with
            | false => rfl
            | true =>
              have h := (HT.o12 e)
              rw [f11] at h
              cases h
          have n12 : ¬ b12 = true := by simp [f12]
          have hw := HT.hw
          simp only [f4, f10, f11, f12, if_true, if_false, Bool.false_eq_true] at hw
          have hw := hw.symm
          subst hw
          clear HT
          have HWN : Hid (X0 = (if b12 then X5 else if b11 then X4 else if b10 then X3 else if b4 then X1 else X0)) := Lib.hid (by simp [f4, f10, f11, f12])
          refine wpOpIn_one rfl rfl (fun K hK => ?_)
          refine ⟨fun _ h => (by cases h), ?_⟩
          go_simp
          exact hK.out _ _ (.mk true b1 b2 b3 b4 b5 b6 b7 b8 b9 b10 b11 b12 _ _ _ _ _ _ _ _ _ _ _ { HTH.out with hw := HWN.out, h0 := fun _ => rfl, o3 := fun h => absurd h n3, o4 := fun h => absurd h n4, o10 := fun h => absurd h n10, o11 := fun h => absurd h n11, o12 := fun h => absurd h n12 })
        | 1, _, hi, hib =>
          have f1 : b1 = false := by simpa using hib
          have f3 : b3 = false := by
            cases e : b3 with
            | false => rfl
            | true =>
              have h := (HT.o3 e).2.1
              rw [f1] at h
              cases h
          have n3 : ¬ b3 = true := by simp [f3]
          have f4 : b4 = false := by
            cases e : b4 with
            | false => rfl
            | true =>
              have h := (HT.o4 e)
              rw [f3] at h
              cases h
          have n4 : ¬ b4 = true := by simp [f4]
          have f10 : b10 = false := by
            cases e : b10 with
            | false => rfl
            | true =>
              have h := (HT.o10 e)
              rw [f4] at h
              cases h
          have n10 : ¬ b10 = true := by simp [f10]
          have f11 : b11 = false := by
            cases e : b11 with
            | false => rfl
            | true =>
              have h := (HT.o11 e).2.2.2.2.2
              rw [f10] at h
              cases h
          have n11 : ¬ b11 = true := by simp [f11]
          have f12 : b12 = false := by
            cases e : b12 with
            | false => rfl
            | true =>
              have h := (HT.o12 e)
              rw [f11] at h
              cases h
          have n12 : ¬ b12 = true := by simp [f12]
          have hw := HT.hw
          simp only [f4, f10, f11, f12, if_true, if_false, Bool.false_eq_true] at hw
          have hw := hw.symm
          subst hw
          clear HT
          have HWN : Hid (X0 = (if b12 then X5 else if b11 then X4 else if b10 then X3 else if b4 then X1 else X0)) := Lib.hid (by simp [f4, f10, f11, f12])
          refine wpOpIn_one rfl rfl (fun K hK => ?_)
          refine ⟨fun _ h => (by cases h), ?_⟩
          go_simp
          exact hK.out _ _ (.mk b0 true b2 b3 b4 b5 b6 b7 b8 b9 b10 b11 b12 _ _ _ _ _ _ _ _ _ _ _ { HTH.out with hw := HWN.out, h1 := fun _ => rfl, o3 := fun h => absurd h n3, o4 := fun h => absurd h n4, o10 := fun h => absurd h n10, o11 := fun h => absurd h n11, o12 := fun h => absurd h n12 })
        | 2, _, hi, hib =>
          have f2 : b2 = false := by simpa using hib
          have f3 : b3 = false := by
            cases e : b3 with
            | false => rfl
            | true =>
              have h := (HT.o3 e).2.2
              rw [f2] at h
              cases h
          have n3 : ¬ b3 = true := by simp [f3]
          have f4 : b4 = false := by
            cases e : b4 with
            | false => rfl
            | true =>
              have h := (HT.o4 e)
              rw [f3] at h
              cases h
          have n4 : ¬ b4 = true := by simp [f4]
          have f10 : b10 = false := by
            cases e : b10 with
            | false => rfl
            | true =>
              have h := (HT.o10 e)
              rw [f4] at h
              cases h
          have n10 : ¬ b10 = true := by simp [f10]
          have f11 : b11 = false := by
            cases e : b11 with
            | false => rfl
            | true =>
              have h := (HT.o11 e).2.2.2.2.2
              rw [f10] at h
              cases h
          have n11 : ¬ b11 = true := by simp [f11]
          have f12 : b12 = false := by
            cases e : b12 with
            | false => rfl
            | true =>
              have h := (HT.o12 e)
              rw [f11] at h
              cases h
          have n12 : ¬ b12 = true := by simp [f12]
          have hw := HT.hw
          simp only [f4, f10, f11, f12, if_true, if_false, Bool.false_eq_true] at hw
          have hw := hw.symm
          subst hw
          clear HT
          have HWN : Hid (X0 = (if b12 then X5 else if b11 then X4 else if b10 then X3 else if b4 then X1 else X0)) := Lib.hid (by simp [f4, f10, f11, f12])
          refine wpOpIn_one rfl rfl (fun K hK => ?_)
          refine ⟨fun _ h => (by cases h), ?_⟩
          go_simp
          exact hK.out _ _ (.mk b0 b1 true b3 b4 b5 b6 b7 b8 b9 b10 b11 b12 _ _ _ _ _ _ _ _ _ _ _ { HTH.out with hw := HWN.out, h2 := fun _ => rfl, o3 := fun h => absurd h n3, o4 := fun h => absurd h n4, o10 := fun h => absurd h n10, o11 := fun h => absurd h n11, o12 := fun h => absurd h n12 })
        | 3, _, hi, hib =>
          have f3 : b3 = false := by simpa using hib
          have d0 : b0 = true := ready_dep hi rfl 0 (by kernel_rfl)
          have d1 : b1 = true := ready_dep hi rfl 1 (by kernel_rfl)
          have d2 : b2 = true := ready_dep hi rfl 2 (by kernel_rfl)
          have hd0 := HT.h0 d0
          subst hd0
          have hd1 := HT.h1 d1
          subst hd1
          have hd2 := HT.h2 d2
          subst hd2
          have f4 : b4 = false := by
            cases e : b4 with
            | false => rfl
            | true =>
              have h := (HT.o4 e)
              rw [f3] at h
              cases h
          have n4 : ¬ b4 = true := by simp [f4]
          have f10 : b10 = false := by
            cases e : b10 with
            | false => rfl
            | true =>
              have h := (HT.o10 e)
              rw [f4] at h
              cases h
          have n10 : ¬ b10 = true := by simp [f10]
          have f11 : b11 = false := by
            cases e : b11 with
            | false => rfl
            | true =>
              have h := (HT.o11 e).2.2.2.2.2
              rw [f10] at h
              cases h
          have n11 : ¬ b11 = true := by simp [f11]
          have f12 : b12 = false := by
            cases e : b12 with
            | false => rfl
            | true =>
              have h := (HT.o12 e)
              rw [f11] at h
              cases h
          have n12 : ¬ b12 = true := by simp [f12]
          have hw := HT.hw
          simp only [f4, f10, f11, f12, if_true, if_false, Bool.false_eq_true] at hw
          have hw := hw.symm
          subst hw
          clear HT
          have HWN : Hid (X0 = (if b12 then X5 else if b11 then X4 else if b10 then X3 else if b4 then X1 else X0)) := Lib.hid (by simp [f4, f10, f11, f12])
          refine wpOpIn_one rfl rfl (fun K hK => ?_)
          refine ⟨fun _ h => (by cases h), ?_⟩
          go_simp
          exact hK.out _ _ (.mk b0 b1 b2 true b4 b5 b6 b7 b8 b9 b10 b11 b12 _ _ _ _ _ _ _ _ _ _ _ { HTH.out with hw := HWN.out, h3 := fun _ => rfl, o3 := fun _ => ⟨d0, d1, d2⟩, o4 := fun h => absurd h n4, o10 := fun h => absurd h n10, o11 := fun h => absurd h n11, o12 := fun h => absurd h n12 })
        | 4, _, hi, hib =>
          have f4 : b4 = false := by simpa using hib
          have d3 : b3 = true := ready_dep hi rfl 3 (by kernel_rfl)
          have hd3 := HT.h3 d3
          subst hd3
          have f10 : b10 = false := by
            cases e : b10 with
            | false => rfl
            | true =>
              have h := (HT.o10 e)
              rw [f4] at h
              cases h
          have n10 : ¬ b10 = true := by simp [f10]
          have f11 : b11 = false := by
            cases e : b11 with
            | false => rfl
            | true =>
              have h := (HT.o11 e).2.2.2.2.2
              rw [f10] at h
              cases h
          have n11 : ¬ b11 = true := by simp [f11]
          have f12 : b12 = false := by
            cases e : b12 with
            | false => rfl
            | true =>
              have h := (HT.o12 e)
              rw [f11] at h
              cases h
          have n12 : ¬ b12 = true := by simp [f12]
          have hw := HT.hw
          simp only [f10, f11, f12, f4, if_true, if_false, Bool.false_eq_true] at hw
          have hw := hw.symm
          subst hw
          clear HT
          have HWN : Hid (X1 = (if b12 then X5 else if b11 then X4 else if b10 then X3 else if true then X1 else X0)) := Lib.hid (by simp [f10, f11, f12])
          refine wpOpIn_one rfl rfl (fun K hK => ?_)
          refine ⟨fun _ h => (by cases h), ?_⟩
          go_simp
          rw [hX1.out]
          exact hK.out _ _ (.mk b0 b1 b2 b3 true b5 b6 b7 b8 b9 b10 b11 b12 _ _ _ _ _ _ _ _ _ _ X1 { HTH.out with hw := HWN.out, h4 := fun _ => rfl, o4 := fun _ => d3, o10 := fun h => absurd h n10, o11 := fun h => absurd h n11, o12 := fun h => absurd h n12 })
        | 5, _, hi, hib =>
          have f5 : b5 = false := by simpa using hib
          have f11 : b11 = false := by
            cases e : b11 with
            | false => rfl
            | true =>
              have h := (HT.o11 e).1
              rw [f5] at h
              cases h
          have n11 : ¬ b11 = true := by simp [f11]
          have f12 : b12 = false := by
            cases e : b12 with
            | false => rfl
            | true =>
              have h := (HT.o12 e)
              rw [f11] at h
              cases h
          have n12 : ¬ b12 = true := by simp [f12]
          have hw := HT.hw
          rcases Bool.eq_false_or_eq_true b10 with e10 | e10
          · simp only [e10, f11, f12, if_true, if_false, Bool.false_eq_true] at hw
            have hw := hw.symm
            subst hw
            clear HT
            have HWN : Hid (X3 = (if b12 then X5 else if b11 then X4 else if b10 then X3 else if b4 then X1 else X0)) := Lib.hid (by simp [f11, f12, e10])
            refine wpOpIn_one rfl rfl (fun K hK => ?_)
            refine ⟨fun _ h => (by cases h), ?_⟩
            go_simp
            exact hK.out _ _ (.mk b0 b1 b2 b3 b4 true b6 b7 b8 b9 b10 b11 b12 _ _ _ _ _ _ _ _ _ _ _ { HTH.out with hw := HWN.out, h5 := fun _ => rfl, o11 := fun h => absurd h n11, o12 := fun h => absurd h n12 })
          · rcases Bool.eq_false_or_eq_true b4 with e4 | e4
            · simp only [e10, e4, f11, f12, if_true, if_false, Bool.false_eq_true] at hw
              have hw := hw.symm
              subst hw
              clear HT
              have HWN : Hid (X1 = (if b12 then X5 else if b11 then X4 else if b10 then X3 else if b4 then X1 else X0)) := Lib.hid (by simp [f11, f12, e10, e4])
              refine wpOpIn_one rfl rfl (fun K hK => ?_)
              refine ⟨fun _ h => (by cases h), ?_⟩
              go_simp
              exact hK.out _ _ (.mk b0 b1 b2 b3 b4 true b6 b7 b8 b9 b10 b11 b12 _ _ _ _ _ _ _ _ _ _ _ { HTH.out with hw := HWN.out, h5 := fun _ => rfl, o11 := fun h => absurd h n11, o12 := fun h => absurd h n12 })
            · simp only [e10, e4, f11, f12, if_true, if_false, Bool.false_eq_true] at hw
              have hw := hw.symm
              subst hw
              clear HT
              have HWN : Hid (X0 = (if b12 then X5 else if b11 then X4 else if b10 then X3 else if b4 then X1 else X0)) := Lib.hid (by simp [f11, f12, e10, e4])
              refine wpOpIn_one rfl rfl (fun K hK => ?_)
              refine ⟨fun _ h => (by cases h), ?_⟩
              go_simp
              exact hK.out _ _ (.mk b0 b1 b2 b3 b4 true b6 b7 b8 b9 b10 b11 b12 _ _ _ _ _ _ _ _ _ _ _ { HTH.out with hw := HWN.out, h5 := fun _ => rfl, o11 := fun h => absurd h n11, o12 := fun h => absurd h n12 })
        | 6, _, hi, hib =>
          have f6 : b6 = false := by simpa using hib
          have d5 : b5 = true := ready_dep hi rfl 5 (by kernel_rfl)
          have hd5 := HT.h5 d5
          subst hd5
          have f11 : b11 = false := by
            cases e : b11 with
            | false => rfl
            | true =>
              have h := (HT.o11 e).2.1
              rw [f6] at h
              cases h
          have n11 : ¬ b11 = true := by simp [f11]
          have f12 : b12 = false := by
            cases e : b12 with
            | false => rfl
            | true =>
              have h := (HT.o12 e)
              rw [f11] at h
              cases h
          have n12 : ¬ b12 = true := by simp [f12]
          have hw := HT.hw
          rcases Bool.eq_false_or_eq_true b10 with e10 | e10
          · simp only [e10, f11, f12, if_true, if_false, Bool.false_eq_true] at hw
            have hw := hw.symm
            subst hw
            clear HT
            have HWN : Hid (X3 = (if b12 then X5 else if b11 then X4 else if b10 then X3 else if b4 then X1 else X0)) := Lib.hid (by simp [f11, f12, e10])
            refine wpOpIn_one rfl rfl (fun K hK => ?_)
            refine ⟨fun _ h => (by cases h), ?_⟩
            go_simp
            exact hK.out _ _ (.mk b0 b1 b2 b3 b4 b5 true b7 b8 b9 b10 b11 b12 _ _ _ _ _ _ _ _ _ _ _ { HTH.out with hw := HWN.out, h6 := fun _ => rfl, o11 := fun h => absurd h n11, o12 := fun h => absurd h n12 })
          · rcases Bool.eq_false_or_eq_true b4 with e4 | e4
            · simp only [e10, e4, f11, f12, if_true, if_false, Bool.false_eq_true] at hw
              have hw := hw.symm
              subst hw
              clear HT
              have HWN : Hid (X1 = (if b12 then X5 else if b11 then X4 else if b10 then X3 else if b4 then X1 else X0)) := Lib.hid (by simp [f11, f12, e10, e4])
              refine wpOpIn_one rfl rfl (fun K hK => ?_)
              refine ⟨fun _ h => (by cases h), ?_⟩
              go_simp
              exact hK.out _ _ (.mk b0 b1 b2 b3 b4 b5 true b7 b8 b9 b10 b11 b12 _ _ _ _ _ _ _ _ _ _ _ { HTH.out with hw := HWN.out, h6 := fun _ => rfl, o11 := fun h => absurd h n11, o12 := fun h => absurd h n12 })
            · simp only [e10, e4, f11, f12, if_true, if_false, Bool.false_eq_true] at hw
              have hw := hw.symm
              subst hw
              clear HT
              have HWN : Hid (X0 = (if b12 then X5 else if b11 then X4 else if b10 then X3 else if b4 then X1 else X0)) := Lib.hid (by simp [f11, f12, e10, e4])
              refine wpOpIn_one rfl rfl (fun K hK => ?_)
              refine ⟨fun _ h => (by cases h), ?_⟩
              go_simp
              exact hK.out _ _ (.mk b0 b1 b2 b3 b4 b5 true b7 b8 b9 b10 b11 b12 _ _ _ _ _ _ _ _ _ _ _ { HTH.out with hw := HWN.out, h6 := fun _ => rfl, o11 := fun h => absurd h n11, o12 := fun h => absurd h n12 })
        | 7, _, hi, hib =>
          have f7 : b7 = false := by simpa using hib
          have f11 : b11 = false := by
            cases e : b11 with
            | false => rfl
            | true =>
              have h := (HT.o11 e).2.2.1
              rw [f7] at h
              cases h
          have n11 : ¬ b11 = true := by simp [f11]
          have f12 : b12 = false := by
            cases e : b12 with
            | false => rfl
            | true =>
              have h := (HT.o12 e)
              rw [f11] at h
              cases h
          have n12 : ¬ b12 = true := by simp [f12]
          have hw := HT.hw
          rcases Bool.eq_false_or_eq_true b10 with e10 | e10
          · simp only [e10, f11, f12, if_true, if_false, Bool.false_eq_true] at hw
            have hw := hw.symm
            subst hw
            clear HT
            have HWN : Hid (X3 = (if b12 then X5 else if b11 then X4 else if b10 then X3 else if b4 then X1 else X0)) := Lib.hid (by simp [f11, f12, e10])
            refine wpOpIn_one rfl rfl (fun K hK => ?_)
            refine ⟨fun _ h => (by cases h), ?_⟩
            go_simp
            exact hK.out _ _ (.mk b0 b1 b2 b3 b4 b5 b6 true b8 b9 b10 b11 b12 _ _ _ _ _ _ _ _ _ _ _ { HTH.out with hw := HWN.out, h7 := fun _ => rfl, o11 := fun h => absurd h n11, o12 := fun h => absurd h n12 })
          · rcases Bool.eq_false_or_eq_true b4 with e4 | e4
            · simp only [e10, e4, f11, f12, if_true, if_false, Bool.false_eq_true] at hw
              have hw := hw.symm
              subst hw
              clear HT
              have HWN : Hid (X1 = (if b12 then X5 else if b11 then X4 else if b10 then X3 else if b4 then X1 else X0)) := Lib.hid (by simp [f11, f12, e10, e4])
              refine wpOpIn_one rfl rfl (fun K hK => ?_)
              refine ⟨fun _ h => (by cases h), ?_⟩
              go_simp
              exact hK.out _ _ (.mk b0 b1 b2 b3 b4 b5 b6 true b8 b9 b10 b11 b12 _ _ _ _ _ _ _ _ _ _ _ { HTH.out with hw := HWN.out, h7 := fun _ => rfl, o11 := fun h => absurd h n11, o12 := fun h => absurd h n12 })
            · simp only [e10, e4, f11, f12, if_true, if_false, Bool.false_eq_true] at hw
              have hw := hw.symm
              subst hw
              clear HT
              have HWN : Hid (X0 = (if b12 then X5 else if b11 then X4 else if b10 then X3 else if b4 then X1 else X0)) := Lib.hid (by simp [f11, f12, e10, e4])
              refine wpOpIn_one rfl rfl (fun K hK => ?_)
              refine ⟨fun _ h => (by cases h), ?_⟩
              go_simp
              exact hK.out _ _ (.mk b0 b1 b2 b3 b4 b5 b6 true b8 b9 b10 b11 b12 _ _ _ _ _ _ _ _ _ _ _ { HTH.out with hw := HWN.out, h7 := fun _ => rfl, o11 := fun h => absurd h n11, o12 := fun h => absurd h n12 })
        | 8, _, hi, hib =>
          have f8 : b8 = false := by simpa using hib
          have d7 : b7 = true := ready_dep hi rfl 7 (by kernel_rfl)
          have hd7 := HT.h7 d7
          subst hd7
          have f11 : b11 = false := by
            cases e : b11 with
            | false => rfl
            | true =>
              have h := (HT.o11 e).2.2.2.1
              rw [f8] at h
              cases h
          have n11 : ¬ b11 = true := by simp [f11]
          have f12 : b12 = false := by
            cases e : b12 with
            | false => rfl
            | true =>
              have h := (HT.o12 e)
              rw [f11] at h
              cases h
          have n12 : ¬ b12 = true := by simp [f12]
          have hw := HT.hw
          rcases Bool.eq_false_or_eq_true b10 with e10 | e10
          · simp only [e10, f11, f12, if_true, if_false, Bool.false_eq_true] at hw
            have hw := hw.symm
            subst hw
            clear HT
            have HWN : Hid (X3 = (if b12 then X5 else if b11 then X4 else if b10 then X3 else if b4 then X1 else X0)) := Lib.hid (by simp [f11, f12, e10])
            refine wpOpIn_one rfl rfl (fun K hK => ?_)
            refine ⟨fun _ h => (by cases h), ?_⟩
            go_simp
            exact hK.out _ _ (.mk b0 b1 b2 b3 b4 b5 b6 b7 true b9 b10 b11 b12 _ _ _ _ _ _ _ _ _ _ _ { HTH.out with hw := HWN.out, h8 := fun _ => rfl, o11 := fun h => absurd h n11, o12 := fun h => absurd h n12 })
          · rcases Bool.eq_false_or_eq_true b4 with e4 | e4
            · simp only [e10, e4, f11, f12, if_true, if_false, Bool.false_eq_true] at hw
              have hw := hw.symm
              subst hw
              clear HT
              have HWN : Hid (X1 = (if b12 then X5 else if b11 then X4 else if b10 then X3 else if b4 then X1 else X0)) := Lib.hid (by simp [f11, f12, e10, e4])
              refine wpOpIn_one rfl rfl (fun K hK => ?_)
              refine ⟨fun _ h => (by cases h), ?_⟩
              go_simp
              exact hK.out _ _ (.mk b0 b1 b2 b3 b4 b5 b6 b7 true b9 b10 b11 b12 _ _ _ _ _ _ _ _ _ _ _ { HTH.out with hw := HWN.out, h8 := fun _ => rfl, o11 := fun h => absurd h n11, o12 := fun h => absurd h n12 })
            · simp only [e10, e4, f11, f12, if_true, if_false, Bool.false_eq_true] at hw
              have hw := hw.symm
              subst hw
              clear HT
              have HWN : Hid (X0 = (if b12 then X5 else if b11 then X4 else if b10 then X3 else if b4 then X1 else X0)) := Lib.hid (by simp [f11, f12, e10, e4])
              refine wpOpIn_one rfl rfl (fun K hK => ?_)
              refine ⟨fun _ h => (by cases h), ?_⟩
              go_simp
              exact hK.out _ _ (.mk b0 b1 b2 b3 b4 b5 b6 b7 true b9 b10 b11 b12 _ _ _ _ _ _ _ _ _ _ _ { HTH.out with hw := HWN.out, h8 := fun _ => rfl, o11 := fun h => absurd h n11, o12 := fun h => absurd h n12 })
        | 9, _, hi, hib =>
          have f9 : b9 = false := by simpa using hib
          have d6 : b6 = true := ready_dep hi rfl 6 (by kernel_rfl)
          have d8 : b8 = true := ready_dep hi rfl 8 (by kernel_rfl)
          have hd6 := HT.h6 d6
          subst hd6
          have hd8 := HT.h8 d8
          subst hd8
          have f11 : b11 = false := by
            cases e : b11 with
            | false => rfl
            | true =>
              have h := (HT.o11 e).2.2.2.2.1
              rw [f9] at h
              cases h
          have n11 : ¬ b11 = true := by simp [f11]
          have f12 : b12 = false := by
            cases e : b12 with
            | false => rfl
            | true =>
              have h := (HT.o12 e)
              rw [f11] at h
              cases h
          have n12 : ¬ b12 = true := by simp [f12]
          have hw := HT.hw
          rcases Bool.eq_false_or_eq_true b10 with e10 | e10
          · simp only [e10, f11, f12, if_true, if_false, Bool.false_eq_true] at hw
            have hw := hw.symm
            subst hw
            clear HT
            have HWN : Hid (X3 = (if b12 then X5 else if b11 then X4 else if b10 then X3 else if b4 then X1 else X0)) := Lib.hid (by simp [f11, f12, e10])
            refine wpOpIn_one rfl rfl (fun K hK => ?_)
            refine ⟨fun _ h => (by cases h), ?_⟩
            go_simp
            exact hK.out _ _ (.mk b0 b1 b2 b3 b4 b5 b6 b7 b8 true b10 b11 b12 _ _ _ _ _ _ _ _ _ _ _ { HTH.out with hw := HWN.out, h9 := fun _ => rfl, o11 := fun h => absurd h n11, o12 := fun h => absurd h n12 })
          · rcases Bool.eq_false_or_eq_true b4 with e4 | e4
            · simp only [e10, e4, f11, f12, if_true, if_false, Bool.false_eq_true] at hw
              have hw := hw.symm
              subst hw
              clear HT
              have HWN : Hid (X1 = (if b12 then X5 else if b11 then X4 else if b10 then X3 else if b4 then X1 else X0)) := Lib.hid (by simp [f11, f12, e10, e4])
              refine wpOpIn_one rfl rfl (fun K hK => ?_)
              refine ⟨fun _ h => (by cases h), ?_⟩
              go_simp
              exact hK.out _ _ (.mk b0 b1 b2 b3 b4 b5 b6 b7 b8 true b10 b11 b12 _ _ _ _ _ _ _ _ _ _ _ { HTH.out with hw := HWN.out, h9 := fun _ => rfl, o11 := fun h => absurd h n11, o12 := fun h => absurd h n12 })
            · simp only [e10, e4, f11, f12, if_true, if_false, Bool.false_eq_true] at hw
              have hw := hw.symm
              subst hw
              clear HT
              have HWN : Hid (X0 = (if b12 then X5 else if b11 then X4 else if b10 then X3 else if b4 then X1 else X0)) := Lib.hid (by simp [f11, f12, e10, e4])
              refine wpOpIn_one rfl rfl (fun K hK => ?_)
              refine ⟨fun _ h => (by cases h), ?_⟩
              go_simp
              exact hK.out _ _ (.mk b0 b1 b2 b3 b4 b5 b6 b7 b8 true b10 b11 b12 _ _ _ _ _ _ _ _ _ _ _ { HTH.out with hw := HWN.out, h9 := fun _ => rfl, o11 := fun h => absurd h n11, o12 := fun h => absurd h n12 })
        | 10, _, hi, hib =>
          have f10 : b10 = false := by simpa using hib
          have d4 : b4 = true := ready_dep hi rfl 4 (by kernel_rfl)
          have hd4 := HT.h4 d4
          subst hd4
          have f11 : b11 = false := by
            cases e : b11 with
            | false => rfl
            | true =>
              have h := (HT.o11 e).2.2.2.2.2
              rw [f10] at h
              cases h
          have n11 : ¬ b11 = true := by simp [f11]
          have f12 : b12 = false := by
            cases e : b12 with
            | false => rfl
            | true =>
              have h := (HT.o12 e)
              rw [f11] at h
              cases h
          have n12 : ¬ b12 = true := by simp [f12]
          have hw := HT.hw
          simp only [f11, f12, d4, f10, if_true, if_false, Bool.false_eq_true] at hw
          have hw := hw.symm
          subst hw
          clear HT
          have HWN : Hid (X3 = (if b12 then X5 else if b11 then X4 else if true then X3 else if b4 then X1 else X0)) := Lib.hid (by simp [f11, f12, d4])
          refine wpOpIn_one rfl rfl (fun K hK => ?_)
          refine ⟨fun _ h => (by cases h), ?_⟩
          go_simp
          rw [hX3.out]
          exact hK.out _ _ (.mk b0 b1 b2 b3 b4 b5 b6 b7 b8 b9 true b11 b12 _ _ _ _ _ _ _ _ _ _ X3 { HTH.out with hw := HWN.out, o10 := fun _ => d4, o11 := fun h => absurd h n11, o12 := fun h => absurd h n12 })
        | 11, _, hi, hib =>
          have f11 : b11 = false := by simpa using hib
          have d5 : b5 = true := ready_dep hi rfl 5 (by kernel_rfl)
          have d6 : b6 = true := ready_dep hi rfl 6 (by kernel_rfl)
          have d7 : b7 = true := ready_dep hi rfl 7 (by kernel_rfl)
          have d8 : b8 = true := ready_dep hi rfl 8 (by kernel_rfl)
          have d9 : b9 = true := ready_dep hi rfl 9 (by kernel_rfl)
          have d10 : b10 = true := ready_dep hi rfl 10 (by kernel_rfl)
          have hd9 := HT.h9 d9
          subst hd9
          have f12 : b12 = false := by
            cases e : b12 with
            | false => rfl
            | true =>
              have h := (HT.o12 e)
              rw [f11] at h
              cases h
          have n12 : ¬ b12 = true := by simp [f12]
          have hw := HT.hw
          simp only [f12, d10, f11, if_true, if_false, Bool.false_eq_true] at hw
          have hw := hw.symm
          subst hw
          clear HT
          have HWN : Hid (X4 = (if b12 then X5 else if true then X4 else if b10 then X3 else if b4 then X1 else X0)) := Lib.hid (by simp [f12, d10])
          refine wpOpIn_one rfl rfl (fun K hK => ?_)
          refine ⟨fun _ h => (by cases h), ?_⟩
          go_simp
          rw [hX4.out]
          exact hK.out _ _ (.mk b0 b1 b2 b3 b4 b5 b6 b7 b8 b9 b10 true b12 _ _ _ _ _ _ _ _ _ _ X4 { HTH.out with hw := HWN.out, o11 := fun _ => ⟨d5, d6, d7, d8, d9, d10⟩, o12 := fun h => absurd h n12 })
        | 12, _, hi, hib =>
          have f12 : b12 = false := by simpa using hib
          have d11 : b11 = true := ready_dep hi rfl 11 (by kernel_rfl)
          have hw := HT.hw
          simp only [d11, f12, if_true, if_false, Bool.false_eq_true] at hw
          have hw := hw.symm
          subst hw
          clear HT
          have HWN : Hid (X5 = (if true then X5 else if b11 then X4 else if b10 then X3 else if b4 then X1 else X0)) := Lib.hid (by simp [d11])
          refine wpOpIn_one rfl rfl (fun K hK => ?_)
          refine ⟨fun _ h => (by cases h), ?_⟩
          go_simp
          rw [hX5.out]
          exact hK.out _ _ (.mk b0 b1 b2 b3 b4 b5 b6 b7 b8 b9 b10 b11 true _ _ _ _ _ _ _ _ _ _ X5 { HTH.out with hw := HWN.out, o12 := fun _ => d11 })
      case fin =>
        rintro lq a' w' ⟨b0, b1, b2, b3, b4, b5, b6, b7, b8, b9, b10, b11, b12, v32, v33, v34, v35, v36, v37, v38, v39, v40, v41, _, HT⟩ hr
        obtain rfl : b0 = true := by
          cases b0 with
          | true => rfl
          | false => exact (ready_in 0 rfl rfl (by simp [Region.binds]) hr).elim
        obtain rfl : b1 = true := by
          cases b1 with
          | true => rfl
          | false => exact (ready_in 1 rfl rfl (by simp [Region.binds]) hr).elim
        obtain rfl : b2 = true := by
          cases b2 with
          | true => rfl
          | false => exact (ready_in 2 rfl rfl (by simp [Region.binds]) hr).elim
        obtain rfl : b3 = true := by
          cases b3 with
          | true => rfl
          | false => exact (ready_in 3 rfl rfl (by simp [Region.binds]) hr).elim
        obtain rfl : b4 = true := by
          cases b4 with
          | true => rfl
          | false => exact (ready_in 4 rfl rfl (by simp [Region.binds]) hr).elim
        obtain rfl : b5 = true := by
          cases b5 with
          | true => rfl
          | false => exact (ready_in 5 rfl rfl (by simp [Region.binds]) hr).elim
        obtain rfl : b6 = true := by
          cases b6 with
          | true => rfl
          | false => exact (ready_in 6 rfl rfl (by simp [Region.binds]) hr).elim
        obtain rfl : b7 = true := by
          cases b7 with
          | true => rfl
          | false => exact (ready_in 7 rfl rfl (by simp [Region.binds]) hr).elim
        obtain rfl : b8 = true := by
          cases b8 with
          | true => rfl
          | false => exact (ready_in 8 rfl rfl (by simp [Region.binds]) hr).elim
        obtain rfl : b9 = true := by
          cases b9 with
          | true => rfl
          | false => exact (ready_in 9 rfl rfl (by simp [Region.binds]) hr).elim
        obtain rfl : b10 = true := by
          cases b10 with
          | true => rfl
          | false => exact (ready_in 10 rfl rfl (by simp [Region.binds]) hr).elim
        obtain rfl : b11 = true := by
          cases b11 with
          | true => rfl
          | false => exact (ready_in 11 rfl rfl (by simp [Region.binds]) hr).elim
        obtain rfl : b12 = true := by
          cases b12 with
          | true => rfl
          | false => exact (ready_in 12 rfl rfl (by simp [Region.binds]) hr).elim
        have k0 := HT.h0 rfl
        subst k0
        have k1 := HT.h1 rfl
        subst k1
        have k2 := HT.h2 rfl
        subst k2
        have k3 := HT.h3 rfl
        subst k3
        have k4 := HT.h4 rfl
        subst k4
        have k5 := HT.h5 rfl
        subst k5
        have k6 := HT.h6 rfl
        subst k6
        have k7 := HT.h7 rfl
        subst k7
        have k8 := HT.h8 rfl
        subst k8
        have k9 := HT.h9 rfl
        subst k9
        have hw5 : X5 = w' := by have := HT.hw; simp only [if_true] at this; exact this.symm
        subst hw5
        clear HT
        gi_wp2
        obtain ⟨en0, en1, en2, en3⟩ := HEND.out
        have hlb := HX01.out.1
        have hz0 := HX01.out.2.2
        have hs12 : w1.heap.size ≤ w2.heap.size := HLS.out.1
        have hsW1 : W.heap.size ≤ w1.heap.size := HLS.out.2
        have hs2 := HS2.out
        have hW3 : s0 + 3 < W.heap.size := HSW.out
        have hsz1 : lb + 1 = X1.heap.size := by rw [← hX1.out]; simp; omega
        have hF25 : Fr w2 X5 (fun b => b < w1.heap.size) := by
          have h1 : Fr w2 X1 (fun b => b < w1.heap.size) := Fr.of_below HBX.out
          exact ((h1.trans en1 (fun b hb => .inl (by show b < w1.heap.size; omega))).trans en2 (fun b hb => .inl (by show b < w1.heap.size; omega))).trans en3 (fun b hb => .inl (by show b < w1.heap.size; omega))
        have hcell : X5.heap[lb]? = some (.cells (cellsL ⟨db, k, bA, bn, bc, .slice rA rn rc, q, false⟩) 83 (0, 0)) := by
          rw [en3.block lb (by have := en1.size; have := en2.size; omega) (by omega), en2.block lb (by have := en1.size; omega) (by omega), en1.block lb (by omega) (by omega), ← hX1.out, ← hlb]
          exact heap_alloc_new X0 _
        have hLG : Lg X5 (fun b => b < w.heap.size) w.heap.size lb ⟨db, k, bA, bn, bc, .slice rA rn rc, q, false⟩ (bsOf f.bs r) (rsOf f.bs r) :=
          found_fin (w1 := w1) (w2 := w2) (by have := HB.out.size; omega) hs12 hF25 (by omega) hcell (by have h := HBASE.out; rw [HQ.out.2.1] at h; exact h) (by have h := HROW.out; rw [HQ.out.2.1] at h; exact h) (bsOf_ok HBF.out HRS.out.1) (rsOf_ok HBF.out HRS.out.1)
        have hk3 : KeepsOthers X1 X3 := by rw [← hX3.out]; exact KeepsOthers.setCell _ _ _
        have hk4 : KeepsOthers X3 X4 := by rw [← hX4.out]; exact KeepsOthers.setCell _ _ _
        have hk5 : KeepsOthers X4 X5 := by rw [← hX5.out]; exact KeepsOthers.setCell _ _ _
        have hK5 : KeepsOthers W X5 := (((KeepsOthers.of_below en0).trans hk3).trans hk4).trans hk5
        have hF15 : Fr X1 X5 (fun b => s0 < b) := ((en1.less (fun b hb => by omega)).trans en2 (fun b hb => .inl (by omega))).trans en3 (fun b hb => .inl (by omega))
        have hlt4 : s0 + 1 < X4.heap.size ∧ s0 + 2 < X4.heap.size ∧ s0 < X4.heap.size := ⟨block_lt_of_cell HM.out.1, block_lt_of_cell HM.out.2.1, Nat.lt_trans (Nat.lt_succ_self s0) (block_lt_of_cell (a := ⟨s0 + 1, 0, none⟩) HM.out.1)⟩
        have hN5 : nwC X5 s0 db (some ⟨lb, 0, none⟩) ((fn : Int) - q) 0 := by
          refine ⟨?_, ?_, ?_, ?_, ?_, ?_, ?_⟩
          · rw [World.cell?_of_block (a := ⟨s0, 0, none⟩) (en3.block s0 hlt4.2.2 (by omega)), World.cell?_of_block (a := ⟨s0, 0, none⟩) (en2.block s0 (by have := en1.size; omega) (by omega)), World.cell?_of_block (a := ⟨s0, 0, none⟩) (en1.block s0 (by omega) (by omega))]; exact HC4.out.1
          · rw [World.cell?_of_block (a := ⟨s0 + 1, 0, none⟩) (en3.block (s0 + 1) hlt4.1 (by omega))]; exact HM.out.1
          · rw [World.cell?_of_block (a := ⟨s0 + 2, 0, none⟩) (en3.block (s0 + 2) hlt4.2.1 (by omega))]; exact HM.out.2.1
          · rw [← hX5.out]; exact World.cell?_setCell_same' _ _ _ (by rw [HM.out.2.2]; rfl)
          · rw [World.frozen?_of_block (a := ⟨s0 + 1, 0, none⟩) (en3.block (s0 + 1) hlt4.1 (by omega)), World.frozen?_of_block (a := ⟨s0 + 1, 0, none⟩) (en2.block (s0 + 1) (by have := en1.size; omega) (by omega)), ← hX3.out, World.frozen?_setCell]; exact HC4.out.2.2.2.2.1
          · rw [World.frozen?_of_block (a := ⟨s0 + 2, 0, none⟩) (en3.block (s0 + 2) hlt4.2.1 (by omega)), ← hX4.out, World.frozen?_setCell, World.frozen?_of_block (a := ⟨s0 + 2, 0, none⟩) (en1.block (s0 + 2) (by omega) (by omega))]; exact HC4.out.2.2.2.2.2.1
          · rw [← hX5.out, World.frozen?_setCell, World.frozen?_of_block (a := ⟨s0 + 3, 0, none⟩) (en2.block (s0 + 3) (by have := en1.size; omega) (by omega)), World.frozen?_of_block (a := ⟨s0 + 3, 0, none⟩) (en1.block (s0 + 3) (by omega) (by omega))]; exact HC4.out.2.2.2.2.2.2
        have hFD : Found w X5 db F k lb ((fn : Int) - q) := by
          refine ⟨f, r, bA, bn, bc, .slice rA rn rc, HFK.out, hr0, HRS.out, by have := HLE.out; omega, ?_, ?_⟩
          · rw [HQ.out.1, HQ.out.2.2]
          · rw [HQ.out.1]; exact hLG
        have hle5 : s0 ≤ lb := by have := HB.out.size; omega
        have hBl : Below s0 w X5 := (HB.out.trans (en0.mono (by have := HB.out.size; omega))).trans ⟨hF15.os, hF15.tape, hF15.output, hF15.size, fun b hb => hF15.block b (by omega) (by omega)⟩
        first
          | exact ⟨hK5, ⟨rfl, bwv pre, k, lb, (fn : Int) - q, HSN.out, HNO.out, hle5, hN5, hFD⟩, hBl⟩
          | exact ⟨hK5, ⟨rfl, bwv pre, k, HSN.out, HNO.out, lb, hle5, (fn : Int) - q, hN5, hFD⟩, hBl⟩
          | exact ⟨hK5, ⟨bwv pre, k, HSN.out, HNO.out, lb, hle5, (fn : Int) - q, hN5, hFD⟩, hBl⟩
    · have hr0 : r = 0 := by first | assumption | omega | (simp_all; done)
      have hs2 := HB2.out.size
      have hbb := HB2.out.alloc hs2 (.cells #[.slice bA bn bc, .slice rA (rsOf f.bs r).length rc, .int .i64 (atN f.bs r : Nat)] 81)
      have HNW : Hid (¬ whole F k) := Lib.hid (fun ⟨f', r', h1, h2, h3⟩ => by
        rw [HFK.out] at h1
        injection h1 with h1
        subst h1
        have := HRS.out.uniq h3
        omega)
      have hW3 : s0 + 3 < W.heap.size := HSW.out
      refine ⟨KeepsOthers.of_below hbb, hbb.mono (by have := HZ5.out; omega), ⟨HC.out.below hbb (by omega), fun y hy => ?_, by have := HZ5.out; have := hbb.size; omega⟩, HB.out.trans (hbb.mono (by omega))⟩
      rw [HSN.out] at hy
      rcases List.mem_append.1 hy with h1 | h1
      · exact HNO.out y h1
      · rw [List.mem_singleton.1 h1]; exact HNW.out
  case done =>
    rintro D xs W hDD hS ⟨⟨hC, hno, _⟩, hB⟩ hK
    have HNO : Hid (∀ x, x ∈ ns → ¬ whole F x) := Lib.hid (fun x hx => hno x (by rw [hS]; exact List.mem_reverse.2 hx))
    have hsW : s0 + 5 ≤ W.heap.size := by have := hK; have := hDD; have := (Array.getElem?_eq_some_iff.1 hK).1; omega
    have hL0 : (W.alloc (.cells #[.pointer none, .int .i64 (-1), .slice none 0 0, .slice none 0 0, .int .i64 0, .bool false] 83)).heap[W.heap.size]? = some (.cells #[.pointer none, .int .i64 (-1), .slice none 0 0, .slice none 0 0, .int .i64 0, .bool false] 83 (0, 0)) := heap_alloc_new W _
    have hC2 : nwC (W.alloc (.cells #[.pointer none, .int .i64 (-1), .slice none 0 0, .slice none 0 0, .int .i64 0, .bool false] 83)) s0 db none 0 0 := hC.below ((Below.refl _ _).alloc (Nat.le_refl _) _) (by omega)
    have HC2 := Lib.hid hC2
    obtain ⟨q0, q1, q2, q3, f1, f2, f3⟩ := hC2
    have HB := Lib.hid hB
    have HK := Lib.hid hK
    have HL0 := Lib.hid hL0
    clear hno hS hB hK hC hL0
    gi_wp2
    have hF : Fr (W.alloc (.cells #[.pointer none, .int .i64 (-1), .slice none 0 0, .slice none 0 0, .int .i64 0, .bool false] 83)) ((((W.alloc (.cells #[.pointer none, .int .i64 (-1), .slice none 0 0, .slice none 0 0, .int .i64 0, .bool false] 83)).setCell ⟨s0 + 1, 0, none⟩ (.pointer (some ⟨W.heap.size, 0, none⟩))).setCell ⟨s0 + 2, 0, none⟩ (.int .i64 0)).setCell ⟨s0 + 3, 0, none⟩ (.int .i64 0)) (fun b => b = s0 + 1 ∨ b = s0 + 2 ∨ b = s0 + 3) := ((Fr.setCell _ (fun b => b = s0 + 1 ∨ b = s0 + 2 ∨ b = s0 + 3) (p := ⟨s0 + 1, 0, none⟩) (.inl rfl) _).trans (Fr.setCell _ (fun b => b = s0 + 1 ∨ b = s0 + 2 ∨ b = s0 + 3) (p := ⟨s0 + 2, 0, none⟩) (.inr (.inl rfl)) _) (fun b hb => .inl hb)).trans (Fr.setCell _ (fun b => b = s0 + 1 ∨ b = s0 + 2 ∨ b = s0 + 3) (p := ⟨s0 + 3, 0, none⟩) (.inr (.inr rfl)) _) (fun b hb => .inl hb)
    obtain ⟨WF, hWF⟩ : ∃ WF, ((((W.alloc (.cells #[.pointer none, .int .i64 (-1), .slice none 0 0, .slice none 0 0, .int .i64 0, .bool false] 83)).setCell ⟨s0 + 1, 0, none⟩ (.pointer (some ⟨W.heap.size, 0, none⟩))).setCell ⟨s0 + 2, 0, none⟩ (.int .i64 0)).setCell ⟨s0 + 3, 0, none⟩ (.int .i64 0)) = WF := ⟨_, rfl⟩
    have x1 : WF.cell? ⟨s0 + 1, 0, none⟩ = some (.pointer (some ⟨W.heap.size, 0, none⟩)) := by
      rw [← hWF, World.cell?_setCell_other _ _ _ _ (by simp), World.cell?_setCell_other _ _ _ _ (by simp)]
      exact World.cell?_setCell_same' _ _ _ (by rw [q1]; rfl)
    have x2 : WF.cell? ⟨s0 + 2, 0, none⟩ = some (.int .i64 0) := by
      rw [← hWF, World.cell?_setCell_other _ _ _ _ (by simp)]
      exact World.cell?_setCell_same' _ _ _ (by rw [World.cell?_setCell_other _ _ _ _ (by simp), q2]; rfl)
    have x3 : WF.cell? ⟨s0 + 3, 0, none⟩ = some (.int .i64 0) := by
      rw [← hWF]
      exact World.cell?_setCell_same' _ _ _ (by rw [World.cell?_setCell_other _ _ _ _ (by simp), World.cell?_setCell_other _ _ _ _ (by simp), q3]; rfl)
    rw [hWF] at hF ⊢
    have hKF : WF.heap[D]? = some (.deferred (some [])) := by
      rw [hF.block D (by have := (Array.getElem?_eq_some_iff.1 HK.out).1; simp; omega) (by omega), Below.heap_alloc _ _ _ (Array.getElem?_eq_some_iff.1 HK.out).1]
      exact HK.out
    refine ⟨by simp, .inl ⟨_, _, rfl, run_takeDeferred hKF, ?_⟩⟩
    have hg := grownBy_putObj' WF D (.deferred none)
    have hr : ∀ r, some D = some r → ∃ o : Obj, WF.heap[r]? = some o ∧ o.isCells = false := fun r e => by cases e; exact ⟨_, hKF, rfl⟩
    have y1 := cell_kept x1 hg hr
    have y2 := cell_kept x2 hg hr
    have y3 := cell_kept x3 hg hr
    refine ⟨.tuple #[.pointer (some ⟨W.heap.size, 0, none⟩), .int .i64 0, .int .i64 0], ?_, W.heap.size, 0, rfl, by omega, ?_, .inl ⟨HNO.out, rfl, ?_⟩⟩
    · simp [results, Try.f38, go_sem, y1, y2, y3]
    · rw [hs0]
      have h1 : Below s0 w WF := (HB.out.alloc (by omega) (.cells #[.pointer none, .int .i64 (-1), .slice none 0 0, .slice none 0 0, .int .i64 0, .bool false] 83)).trans ⟨hF.os, hF.tape, hF.output, hF.size, fun b hb => hF.block b (by simp; omega) (by omega)⟩
      exact h1.trans (belowK_b (w := W0) (by omega) WF D _ _ hDD hKF rfl rfl)
    · show (WF.putObj D _).heap[W.heap.size]? = _
      have hDW : D < W.heap.size := (Array.getElem?_eq_some_iff.1 HK.out).1
      rw [World.putObj_heap_other (by omega), hF.block W.heap.size (by simp) (by omega)]
      exact HL0.out
  case stop =>
    rintro D cx pre W hDD hS ⟨⟨rfl, p, k, lb, b, h1, h2, h3, h4, h5⟩, hB⟩ hK
    have HL : Hid (k ∈ ns ∧ ∀ x, x ∈ ns → k < x → ¬ whole F x) := Lib.hid (by
      have h6 := last_gt HA.out (p := p) (k := k) (by rw [← h1]; exact hS)
      exact ⟨h6.1, fun x hx hk => h2 x (h6.2 x hx hk)⟩)
    have HK := Lib.hid hK
    have HB := Lib.hid hB
    have H4 := Lib.hid h4
    have H5 := Lib.hid h5
    clear h1 h2 hS hK hB h4 h5
    gi_wp2
    refine ⟨by simp, .inl ⟨_, _, rfl, run_takeDeferred HK.out, ?_⟩⟩
    have hg := grownBy_putObj' W D (.deferred none)
    have hr : ∀ r, some D = some r → ∃ o : Obj, W.heap[r]? = some o ∧ o.isCells = false := fun r e => by cases e; exact ⟨_, HK.out, rfl⟩
    have hk4 := H4.out.kept hg hr
    have hk5 := H5.out.nc hg hr
    obtain ⟨q0, q1, q2, q3, f1, f2, f3⟩ := hk4
    refine ⟨.tuple #[.pointer (some ⟨lb, 0, none⟩), .int .i64 b, .int .i64 0], ?_, lb, b, rfl, by rw [hs0]; exact h3, ?_, .inr ⟨k, HL.out.1, HL.out.2, hk5⟩⟩
    · simp [results, Try.f38, go_sem, q1, q2, q3]
    · rw [hs0]
      exact HB.out.trans (belowK_b (w := W0) (by omega) W D _ _ hDD HK.out rfl rfl)
end
end Go.Proofs.Ytadajkgiijpakaa
