/-
  THE DOCUMENT'S READ of a log, over this translation.
-/
import Derived.Test.YtadajkgiijpakaaWOpG
import Derived.Test.YtadajkgiijpakaaYSplit
import Derived.Deep.RegionLaw
namespace Go.Proofs.Ytadajkgiijpakaa
open Go.RowKit
open ByteP
set_option linter.unusedVariables false
set_option maxRecDepth 10000
theorem Held.at_ {w : World} {S : Option Addr} {base k : Nat} {A : Option Addr} {c : Nat} {PX : Nat → List Int} (h : Held w S base (.slice A k c) k PX) {j : Nat} (hj : j < k) :
    ∃ g P n d, A = some ⟨g, 0, none⟩ ∧ base ≤ g ∧ g < w.heap.size ∧ w.cell? ⟨g, j, none⟩ = some (.slice P n d) ∧ RdY w w.heap.size P n (PX j) ∧ Bytes (PX j) ∧ n ≤ 9223372036854775807 ∧ n ≤ d ∧ Src S P ∧ (∀ b off, P = some ⟨b, off, none⟩ → 0 < n → b ≠ g) := by
  have hge := h.block_ge
  have hlt := h.block_lt
  obtain ⟨vals, ho, hv⟩ := h
  obtain ⟨P, n, d, e, hr, hby, hn, hsr, hne⟩ := hv j hj
  obtain ⟨g, cap, hg, _, _⟩ := World.ownsRow.form ho (by omega)
  injection hg with h1 h2 h3
  subst h1 h3
  exact ⟨g, P, n, d, rfl, hge g rfl, hlt g rfl, by rw [ho.cellAt j (by omega)]; exact e, hr, hby, hn.1, hn.2, hsr, fun b off e2 hn2 e3 => hne b off e2 hn2 (by rw [e3]; rfl)⟩
theorem splits_le {xs : List Int} {k : Nat} (h : Splits xs k) : atN xs k ≤ xs.length := atN_le k h.1
/-- Where the frames of a log end. -/
theorem okF_of {xs : List Int} {j : Nat} (ho : openN (xs.drop (atN xs j)) = 0) (hn : (pT xs j) ≠ []) (hi : ix (pT xs j) 0 = mkN j) : okF xs j := ⟨ho, hn, hi⟩
theorem pT_size {xs : List Int} {j : Nat} (ho : openN (xs.drop (atN xs j)) = 0) : atN xs (j + 1) = atN xs j + ((pT xs j).length + 8) := by
  show atN xs j + sizeN (xs.drop (atN xs j)) = _
  rw [sizeN_yes ho]
  unfold pT
  rw [payT_yes ho, payL_length (by have := open_len ho; rw [sizeN_yes ho] at this; omega)]
/-- A piece of code all of whose orders end alike. -/
theorem wp_at {P : Program} {c : Code} {Q : Exit → Act → World → Prop} {a : Act} {w : World} (A' : Act) (W' : World) (hr : c.wp P (fun e a' w' => e = .normal ∧ a' = A' ∧ w' = W') a w) (h : Q .normal A' W') : c.wp P Q a w :=
  Code.wp_mono (fun e a' w' h2 => by obtain ⟨h3, h4, h5⟩ := h2; subst h3 h4 h5; exact h) hr
theorem u8_not_log {w : World} {h2 off : Nat} {x : Int} (h : w.heap[h2]? = some (.cells #[.slice none 0 0, .slice none 0 0, .int .i64 0] 36 (0, 0))) : w.cell? ⟨h2, off, none⟩ ≠ some (.int .u8 x) := fun h3 => by
  match off with
  | 0 => rw [cellK_of_heap h (i := 0) (x := .slice none 0 0) rfl] at h3; cases h3
  | 1 => rw [cellK_of_heap h (i := 1) (x := .slice none 0 0) rfl] at h3; cases h3
  | 2 => rw [cellK_of_heap h (i := 2) (x := .int .i64 0) rfl] at h3; cases h3
  | k + 3 => simp [World.cell?, h] at h3
theorem rdK_not_log {w : World} {h2 n : Nat} {A : Option Addr} {xs : List Int} (hr : RdY w w.heap.size A n xs) (h : w.heap[h2]? = some (.cells #[.slice none 0 0, .slice none 0 0, .int .i64 0] 36 (0, 0))) : RdK w (fun b => b = h2) A n xs := ⟨hr.1, fun hn => by
  obtain ⟨b, off, e, hb, hc⟩ := hr.2 hn
  exact ⟨b, off, e, hb, fun e2 => by subst e2; exact u8_not_log h (hc 0 hn), hc⟩⟩
set_option maxHeartbeats 8000000 in
set_option maxRecDepth 100000 in
theorem refRead_any {w : World} {B n c : Nat} {A : Option Addr} {xs : List Int} (M : Nat → Prop) (hM : ∀ a, A = some a → ¬ M a.block) (hMl : ∀ b, M b → b < w.heap.size) (hx : RdY w B A n xs) (hb : Bytes xs) (hnc : n ≤ c) (hn : n ≤ 1000000000) (hB : B ≤ w.heap.size) :
    Calls Try.prog 14 #[.slice A n c] w fun e w' => ∃ (r : Nat) (bA : Option Addr) (bn bc : Nat) (rv : Value), e = .returned (.tuple #[.agg #[.slice bA bn bc, rv, .int .i64 (atN xs r : Nat)], .bool (decide (0 < r))]) ∧ Reads xs r ∧
      RdK w' M bA bn (bsOf xs r) ∧ Row w' M w.heap.size rv (rsOf xs r) ∧ Below w.heap.size w w' := by
  obtain ⟨W, hW⟩ : ∃ W, w.alloc (.cells #[.slice none 0 0, .slice none 0 0, .int .i64 0] 36) = W := ⟨_, rfl⟩
  have hbW : Below w.heap.size w W := by rw [← hW]; exact (Below.refl _ _).alloc (Nat.le_refl _) _
  have hh2 : W.heap[w.heap.size]? = some (.cells #[.slice none 0 0, .slice none 0 0, .int .i64 0] 36 (0, 0)) := by rw [← hW]; exact heap_alloc_new w _
  have HSP := Lib.hid (refSplit_any (c := c) (hx.below (hbW.mono hB)) hb hnc hn (Nat.le_trans hB hbW.size))
  have HX := Lib.hid hx
  have HBX := Lib.hid hb
  have HBW := Lib.hid hbW
  have HH2 := Lib.hid hh2
  have HW := Lib.hid hW
  have HM := Lib.hid hM
  have HML := Lib.hid hMl
  clear hx hb hbW hh2 hW hM hMl
  go_enter Try.func14, Try.ntmps14
  go_wp2_with fail
  rw [HW.out]
  refine HSP.out.mono ?_
  rintro e w1 ⟨k, v1, hspl, rfl, hheld, hb1⟩
  obtain ⟨A1, c1, rfl⟩ := hheld.shape
  have HS := Lib.hid hspl
  have HH := Lib.hid hheld
  have HB1 : Hid (Below w.heap.size w w1) := Lib.hid (HBW.out.trans (hb1.mono HBW.out.size))
  have hh2 : w1.heap[w.heap.size]? = some (.cells #[.slice none 0 0, .slice none 0 0, .int .i64 0] 36 (0, 0)) := (hb1.block _ (heapK_lt HH2.out)).trans HH2.out
  have HR2 := Lib.hid hh2
  have z0 := cellK_of_heap hh2 (i := 0) (x := .slice none 0 0) rfl
  have z1 := cellK_of_heap hh2 (i := 1) (x := .slice none 0 0) rfl
  have z2 := cellK_of_heap hh2 (i := 2) (x := .int .i64 0) rfl
  have f0 := freeK_of_heap (i := 0) hh2
  have f1 := freeK_of_heap (i := 1) hh2
  have f2 := freeK_of_heap (i := 2) hh2
  clear hspl hheld hb1 hh2 HSP
  by_cases hk0 : k = 0
  · have d0 : ((k : Int) == 0) = true := by simp; omega
    go_wp2_with fail
    (try simp only [Exit.inBlock, Exit.then])
    refine bodyPost_ret (v := .tuple #[.agg #[.slice none 0 0, .slice none 0 0, .int .i64 0], .bool false]) ?_ rfl ⟨0, none, 0, 0, .slice none 0 0, rfl, ⟨fun j hj => absurd hj (Nat.not_lt_zero j), fun h => ?_⟩, ⟨rfl, fun h => absurd h (Nat.lt_irrefl 0)⟩, Row.nil_ _ _ _, ?_⟩
    · rw [results_cell_tmp rfl]; go_simp
    · subst hk0; exact HS.out.2 h.1
    · exact HB1.out.trans (fr_base (((Fr.setCell w1 (fun b => b = w.heap.size) (p := ⟨w.heap.size, 0, none⟩) rfl _).trans (Fr.setCell _ (fun b => b = w.heap.size) (p := ⟨w.heap.size, 1, none⟩) rfl _) (fun b hb => .inl hb)).trans (Fr.setCell _ (fun b => b = w.heap.size) (p := ⟨w.heap.size, 2, none⟩) rfl _) (fun b hb => .inl hb)) (fun b hb => by rw [hb]; exact Nat.le_refl _) HB1.out.size)
  have d0 : ((k : Int) == 0) = false := by simp; omega
  obtain ⟨g, P, pn, pd, eA, hge, hgl, hc0, hr0, hby0, hpn, hpd, hsr0, hne0⟩ := HH.out.at_ (j := 0) (by omega)
  subst eA
  by_cases hp0 : pn = 0
  · have d1 : ((pn : Int) == 0) = true := by simp; omega
    go_wp2_with fail
    (try simp only [Exit.inBlock, Exit.then])
    refine bodyPost_ret (v := .tuple #[.agg #[.slice none 0 0, .slice none 0 0, .int .i64 0], .bool false]) ?_ rfl ⟨0, none, 0, 0, .slice none 0 0, rfl, ⟨fun j hj => absurd hj (Nat.not_lt_zero j), fun h => ?_⟩, ⟨rfl, fun h => absurd h (Nat.lt_irrefl 0)⟩, Row.nil_ _ _ _, ?_⟩
    · rw [results_cell_tmp rfl]; go_simp
    · exact h.2.1 (List.eq_nil_of_length_eq_zero (by have := hr0.1; rw [hp0] at this; exact this))
    · exact HB1.out.trans (fr_base (((Fr.setCell w1 (fun b => b = w.heap.size) (p := ⟨w.heap.size, 0, none⟩) rfl _).trans (Fr.setCell _ (fun b => b = w.heap.size) (p := ⟨w.heap.size, 1, none⟩) rfl _) (fun b hb => .inl hb)).trans (Fr.setCell _ (fun b => b = w.heap.size) (p := ⟨w.heap.size, 2, none⟩) rfl _) (fun b hb => .inl hb)) (fun b hb => by rw [hb]; exact Nat.le_refl _) HB1.out.size)
  have d1 : ((pn : Int) == 0) = false := by simp; omega
  obtain ⟨b0, off0, rfl, hb0l, hcell0⟩ := hr0.2 (by omega)
  have HN0 : Hid (¬ M b0) := Lib.hid (by obtain ⟨o, h, h2⟩ := hsr0 _ rfl; have h3 := HM.out o h; rw [h2] at h3; exact h3)
  clear hsr0
  have hx0 := hcell0 0 (by omega)
  by_cases hi0 : ix (pT xs 0) 0 = 0
  · have d2 : (ix (pT xs 0) 0 != 0) = false := by simp [hi0]
    go_wp2_with fail
    have hnw := World.new_ne w1 ⟨g, 0, none⟩ hc0
    have h1n : (1 : Int) ≤ (pn : Int) := by omega
    have hk1n : 0 < k := by omega
    have hk1m : ¬ (k : Int) ≤ 0 := by omega
    have HB0L : pn ≤ 1000000000 := by
      have h := splits_le HS.out
      have h1 : atN xs 1 = atN xs 0 + ((pT xs 0).length + 8) := pT_size (xs := xs) (j := 0) (HS.out.1 0 (by omega))
      have h2 := hr0.1
      have h3 := atN_le (xs := xs) 1 (fun j hj => HS.out.1 j (by omega))
      have h4 := HX.out.1
      omega
    have hpd0 : (pn : Int) ≤ (pd : Int) := by omega
    apply wp_at
    case hr =>
      go_region_held3 (fun W => W.cell? ⟨g, 0, none⟩ = some (.slice (some ⟨b0, off0, none⟩) pn pd)) ((first | exact hc0 | go_keep)) (fail)
      all_goals exact ⟨rfl, rfl, rfl⟩
    case h =>
      have h8 : IntKind.i64.wrap (8 + (pn : Int)) = ((atN xs 1 : Nat) : Int) := by
        have h := pT_size (xs := xs) (j := 0) (HS.out.1 0 (by omega))
        have h2 := hr0.1
        rw [h2] at h
        have h3 := HB0L
        rw [h, IntWalk.i64_in _ (by omega)]
        show _ = (((0 + (pn + 8) : Nat)) : Int)
        omega
      rw [h8]
      obtain ⟨Q1, hQ1⟩ : ∃ Q1, (if pd = 1 then some (⟨b0, off0, none⟩ : Addr) else some ⟨b0, off0 + 1, none⟩) = Q1 := ⟨_, rfl⟩
      rw [hQ1]
      have HQ1 := Lib.hid hQ1
      obtain ⟨e1, he1⟩ : ∃ e1, atN xs 1 = e1 := ⟨_, rfl⟩
      have HE1 := Lib.hid he1
      rw [he1]
      clear hQ1 he1 h8
      go_wp2_with fail
      have HOK0 : Hid (okF xs 0) := Lib.hid (okF_of (HS.out.1 0 (by omega)) (fun h => by have h2 := hr0.1; rw [h] at h2; simp at h2; omega) hi0)
      have hb0 : bsOf xs 1 = (pT xs 0).tail := rfl
      have HBT : Hid (RdK w1 (fun b => b = w.heap.size ∨ M b) Q1 (pn - 1) (bsOf xs 1)) := Lib.hid (by
        have h := hr0.from (c := pd) (q := 1) (by omega) hpd
        rw [hb0, ← List.drop_one]
        have e : subA (some ⟨b0, off0, none⟩) pd 1 = Q1 := by rw [← HQ1.out]; unfold subA; rfl
        rw [e] at h
        have h2 := rdK_not_log h HR2.out
        refine ⟨h2.1, fun hn => ?_⟩
        obtain ⟨b, off, e2, hb, hne, hc⟩ := h2.2 hn
        refine ⟨b, off, e2, hb, fun hm => hm.elim hne (fun h3 => ?_), hc⟩
        have e3 : b = b0 := by
          rw [← HQ1.out] at e2
          split at e2 <;> (injection e2 with e2; injection e2 with e2; exact e2.symm)
        rw [e3] at h3
        exact HN0.out h3)
      obtain ⟨h6, hh6⟩ : ∃ h6, w1.heap.size = h6 := ⟨_, rfl⟩
      obtain ⟨w2, hw2⟩ : ∃ w2, (w1.alloc (.cells #[.slice Q1 (pn - 1) (pd - 1), .slice none 0 0, .int .i64 (e1 : Int)] 36)).drew = w2 := ⟨_, rfl⟩
      have HB2 : Hid (Below w1.heap.size w1 w2) := Lib.hid (by rw [← hw2]; exact ((Below.refl _ w1).alloc (Nat.le_refl _) _).drew)
      have HC2 : Hid (w2.heap[h6]? = some (.cells #[.slice Q1 (pn - 1) (pd - 1), .slice none 0 0, .int .i64 (e1 : Int)] 36 (0, 0))) := Lib.hid (by rw [← hw2, ← hh6]; exact heap_alloc_new w1 _)
      have HH6 := Lib.hid hh6
      rw [hw2, hh6]
      clear hw2 hh6 hnw hc0 hx0 hcell0 hb0
      go_loopw [7] (fun i wr => ∃ (r : Nat) (rv : Value), 1 ≤ r ∧ r ≤ k ∧ i = .int .i64 (r : Int) ∧ Hid (∀ j, j < r → okF xs j) ∧ Hid (wr.heap[h6]? = some (.cells #[.slice Q1 (pn - 1) (pd - 1), rv, .int .i64 ((atN xs r : Nat) : Int)] 36 (0, 0))) ∧ Hid (Row wr (fun b => (b = h6 ∨ b = w.heap.size) ∨ M b) w1.heap.size rv (rsOf xs r)) ∧ Hid (Below w1.heap.size w1 wr)) (fun i _ => k - (intOf i).toNat)
      case atStart => exact ⟨1, .slice none 0 0, Nat.le_refl _, by omega, rfl, Lib.hid (fun j hj => by have e : j = 0 := (by omega); subst e; exact HOK0.out), by rw [HE1.out]; exact HC2, Lib.hid (by rw [rsOf_one]; exact Row.nil_ _ _ _), HB2⟩
      case round =>
        obtain ⟨r, rv, hr1, hrk, rfl, HOK, HC, HROW, HB⟩ := hrel
        obtain ⟨RA, rc, rfl⟩ := HROW.out.shape
        by_cases hlt : r < k
        · obtain ⟨g', P, qn, qd, eg, hge', hgl', hcr, hrr, hbyr, hqn, hqd, hsrr, hner⟩ := HH.out.at_ (j := r) hlt
          injection eg with eg
          injection eg with eg
          subst eg
          have hcw : wr.cell? ⟨g, r, none⟩ = some (.slice P qn qd) := (HB.out.cell (p := ⟨g, r, none⟩) hgl').trans hcr
          have HSZ := Lib.hid (pT_size (xs := xs) (j := r) (HS.out.1 r hlt))
          have HQL : Hid ((pT xs r).length = qn) := Lib.hid hrr.1
          have x0 := cellK_of_heap HC.out (i := 0) (x := .slice Q1 (pn - 1) (pd - 1)) rfl
          have x1 := cellK_of_heap HC.out (i := 1) (x := .slice RA (rsOf xs r).length rc) rfl
          have x2 := cellK_of_heap HC.out (i := 2) (x := .int .i64 ((atN xs r : Nat) : Int)) rfl
          have y0 := freeK_of_heap (i := 0) HC.out
          have y1 := freeK_of_heap (i := 1) HC.out
          have y2 := freeK_of_heap (i := 2) HC.out
          have hrk1 : ((r : Int) < (k : Int)) := by omega
          have HCR := Lib.hid hcr
          clear hcr
          have hcw2 : wr.heap[w.heap.size]? = some (.cells #[.slice none 0 0, .slice none 0 0, .int .i64 0] 36 (0, 0)) := (HB.out.block _ (heapK_lt HR2.out)).trans HR2.out
          have z0 := cellK_of_heap hcw2 (i := 0) (x := .slice none 0 0) rfl
          have z1 := cellK_of_heap hcw2 (i := 1) (x := .slice none 0 0) rfl
          have z2 := cellK_of_heap hcw2 (i := 2) (x := .int .i64 0) rfl
          have f0 := freeK_of_heap (i := 0) hcw2
          have f1 := freeK_of_heap (i := 1) hcw2
          have f2 := freeK_of_heap (i := 2) hcw2
          clear hcw2
          by_cases hq0 : qn = 0
          · have d3 : ((qn : Int) == 0) = true := by simp; omega
            go_wp2_with fail
            (try simp only [Exit.inBlock, Exit.then])
            have hfin : Fr wr (((wr.setCell ⟨w.heap.size, 0, none⟩ (.slice Q1 (pn - 1) (pd - 1))).setCell ⟨w.heap.size, 1, none⟩ (.slice RA (rsOf xs r).length rc)).setCell ⟨w.heap.size, 2, none⟩ (.int .i64 ((atN xs r : Nat) : Int))) (fun b => b = w.heap.size) := ((Fr.setCell wr (fun b => b = w.heap.size) (p := ⟨w.heap.size, 0, none⟩) rfl _).trans (Fr.setCell _ (fun b => b = w.heap.size) (p := ⟨w.heap.size, 1, none⟩) rfl _) (fun b hb => .inl hb)).trans (Fr.setCell _ (fun b => b = w.heap.size) (p := ⟨w.heap.size, 2, none⟩) rfl _) (fun b hb => .inl hb)
            refine bodyPost_ret (v := .tuple #[.agg #[.slice Q1 (pn - 1) (pd - 1), .slice RA (rsOf xs r).length rc, .int .i64 ((atN xs r : Nat) : Int)], .bool true]) ?_ rfl ⟨r, Q1, pn - 1, pd - 1, .slice RA (rsOf xs r).length rc, by rw [decide_eq_true (show 0 < r by omega)], ⟨HOK.out, fun h => ?_⟩, ?_, ?_, ?_⟩
            · rw [results_cell_tmp rfl]; go_simp
            · exact h.2.1 (List.eq_nil_of_length_eq_zero (by have := HQL.out; rw [hq0] at this; exact this))
            · have e : bsOf xs r = bsOf xs 1 := by unfold bsOf; rw [if_neg (by omega), if_neg (by omega)]
              rw [e]
              exact ((HBT.out.turn (Fr.of_below HB.out) (fun b hb => .inl hb)).turn (hfin.less (fun b hb => .inl hb)) (fun b hb => .inl (.inr hb)))
            · exact (HROW.out.turn (hfin.less (fun b hb => .inl (.inr hb))) (M' := M) (fun b hb => .inl (.inr hb))).low HB1.out.size
            · exact HB1.out.trans ((HB.out.mono HB1.out.size).trans (fr_base hfin (fun b hb => by rw [hb]; exact Nat.le_refl _) (Nat.le_trans HB1.out.size HB.out.size)))
          have d3 : ((qn : Int) == 0) = false := by simp; omega
          obtain ⟨b3, off3, rfl, hb3l, hcell3⟩ := hrr.2 (by omega)
          have HN3 : Hid (¬ M b3) := Lib.hid (by obtain ⟨o, h, h2⟩ := hsrr _ rfl; have h3 := HM.out o h; rw [h2] at h3; exact h3)
          clear hsrr
          have hx3 : wr.cell? ⟨b3, off3, none⟩ = some (.int .u8 (ix (pT xs r) 0)) := (HB.out.cell (p := ⟨b3, off3, none⟩) hb3l).trans (hcell3 0 (by omega))
          by_cases hi3 : ix (pT xs r) 0 = 1
          · have d4 : (ix (pT xs r) 0 != 1) = false := by simp [hi3]
            go_wp2_with fail
            clear z0 z1 z2 f0 f1 f2
            have hOKr : okF xs r := okF_of (HS.out.1 r hlt) (fun h => by have h2 := HQL.out; rw [h] at h2; simp at h2; omega) (by rw [hi3]; unfold mkN; rw [if_neg (by omega)])
            have HOKr := Lib.hid hOKr
            have h1q : (1 : Int) ≤ (qn : Int) := by omega
            have hqd0 : (qn : Int) ≤ (qd : Int) := by omega
            clear hOKr
            have hAL : Below wr.heap.size wr (wr.alloc (.cells #[.slice (if qd = 1 then some ⟨b3, off3, none⟩ else some ⟨b3, off3 + 1, none⟩) (qn - 1) (qd - 1)] 26)).drew := ((Below.refl _ wr).alloc (Nat.le_refl _) _).drew
            have hsr := HB.out.size
            have h6l : h6 < wr.heap.size := heapK_lt HC.out
            have HROWA : Hid (Row (wr.alloc (.cells #[.slice (if qd = 1 then some ⟨b3, off3, none⟩ else some ⟨b3, off3 + 1, none⟩) (qn - 1) (qd - 1)] 26)).drew (fun b => (b = h6 ∨ b = w.heap.size) ∨ M b) w1.heap.size (.slice RA (rsOf xs r).length rc) (rsOf xs r)) := Lib.hid (HROW.out.below hAL)
            have HMA : Hid (∀ b, ((b = h6 ∨ b = w.heap.size) ∨ M b) → b < (wr.alloc (.cells #[.slice (if qd = 1 then some ⟨b3, off3, none⟩ else some ⟨b3, off3 + 1, none⟩) (qn - 1) (qd - 1)] 26)).drew.heap.size) := Lib.hid (fun b hb => by
              have h2 := heapK_lt HR2.out
              have h3 := hAL.size
              have h4 := HB1.out.size
              have h5 := HB.out.size
              rcases hb with (h | h) | h
              · omega
              · omega
              · have := HML.out b h; omega)
            have hcA : (wr.alloc (.cells #[.slice (if qd = 1 then some ⟨b3, off3, none⟩ else some ⟨b3, off3 + 1, none⟩) (qn - 1) (qd - 1)] 26)).drew.cell? ⟨wr.heap.size, 0, none⟩ = some (.slice (if qd = 1 then some ⟨b3, off3, none⟩ else some ⟨b3, off3 + 1, none⟩) (qn - 1) (qd - 1)) := cellK_of_heap (heap_alloc_new wr (.cells #[.slice (if qd = 1 then some ⟨b3, off3, none⟩ else some ⟨b3, off3 + 1, none⟩) (qn - 1) (qd - 1)] 26)) (i := 0) (x := .slice (if qd = 1 then some ⟨b3, off3, none⟩ else some ⟨b3, off3 + 1, none⟩) (qn - 1) (qd - 1)) rfl
            have HRKA : Hid (RdK (wr.alloc (.cells #[.slice (if qd = 1 then some ⟨b3, off3, none⟩ else some ⟨b3, off3 + 1, none⟩) (qn - 1) (qd - 1)] 26)).drew (fun b => ((b = h6 ∨ b = w.heap.size) ∨ M b) ∨ (Value.slice RA (rsOf xs r).length rc).ownBlock = some b) (if qd = 1 then some ⟨b3, off3, none⟩ else some ⟨b3, off3 + 1, none⟩) (qn - 1) (pT xs r).tail) := Lib.hid (by
              have h := hrr.from (c := qd) (q := 1) (by omega) hqd
              rw [List.drop_one] at h
              have h2 := rdK_not_log h HR2.out
              have h3 : RdK w1 (fun b => ((b = h6 ∨ b = w.heap.size) ∨ M b) ∨ (Value.slice RA (rsOf xs r).length rc).ownBlock = some b) (subA (some ⟨b3, off3, none⟩) qd 1) (qn - 1) (pT xs r).tail := ⟨h2.1, fun hn => by
                obtain ⟨b, off, e, hb, hne, hc⟩ := h2.2 hn
                refine ⟨b, off, e, hb, fun hm => ?_, hc⟩
                rcases hm with ((h4 | h4) | h4) | h4
                · have := HH6.out; omega
                · exact hne h4
                · have e3 : b = b3 := by
                    unfold subA at e
                    split at e <;> (injection e with e; injection e with e; exact e.symm)
                  rw [e3] at h4; exact HN3.out h4
                · have := HROW.out.block_ge b h4; omega⟩
              have e : subA (some ⟨b3, off3, none⟩) qd 1 = (if qd = 1 then some ⟨b3, off3, none⟩ else some ⟨b3, off3 + 1, none⟩) := by unfold subA; rfl
              rw [e] at h3
              exact (h3.turn (Fr.of_below HB.out) (fun b hb => .inl hb)).turn (Fr.of_below hAL) (fun b hb => .inl hb))
            have HBT3 : Hid (Bytes (pT xs r).tail) := Lib.hid (bytes_tail (pT_bytes HBX.out r))
            have hk9 : (rsOf xs r).length ≤ 1000000000 := by
              rw [rsOf_len]
              have h := atN_ge (xs := xs) r (fun j hj => (HOK.out j hj).1)
              have h2 := atN_le (xs := xs) r (fun j hj => (HOK.out j hj).1)
              have h3 := HX.out.1
              omega
            have hn9 : qn - 1 ≤ 1099511627776 := by
              have h := HSZ.out
              have h2 := atN_le (xs := xs) (r + 1) (fun j hj => HS.out.1 j (by omega))
              have h3 := HX.out.1
              have h4 := HQL.out
              omega
            have hBS : w1.heap.size ≤ (wr.alloc (.cells #[.slice (if qd = 1 then some ⟨b3, off3, none⟩ else some ⟨b3, off3 + 1, none⟩) (qn - 1) (qd - 1)] 26)).drew.heap.size := Nat.le_trans hsr hAL.size
            have HAL := Lib.hid hAL
            clear hAL hrr hcell3
            go_region_law (first
              | (refine stepR_app (by rfl) _ _ (by rfl) (fun b => (b = h6 ∨ b = w.heap.size) ∨ M b) w1.heap.size (.slice RA (rsOf xs r).length rc) (rsOf xs r) (by rfl) HROWA.out HMA.out wr.heap.size (if qd = 1 then some ⟨b3, off3, none⟩ else some ⟨b3, off3 + 1, none⟩) (qn - 1) (qd - 1) (pT xs r).tail (by rfl) hcA hk9 hBS HRKA.out HBT3.out hn9 (wr.heap.size + 1) (by simp) ?_; intro g9 c9 w7 hrow7 hg7 hat7; (have hce : w7.heap[h6]? = some (.cells #[.slice Q1 (pn - 1) (pd - 1), .slice RA (rsOf xs r).length rc, .int .i64 ((atN xs r : Nat) : Int)] 36 (0, 0)) := (hg7.block h6 (Nat.lt_of_lt_of_le h6l HAL.out.size) (fun e => HROW.out.nd h6 e.symm (.inl (.inl rfl)))).trans ((HAL.out.block h6 h6l).trans HC.out)); (have c71 := cellK_of_heap hce (i := 1) (x := .slice RA (rsOf xs r).length rc) rfl); (have f71 := freeK_of_heap (i := 1) hce); (have HCE := Lib.hid hce); clear hce))
            all_goals
              obtain ⟨W9, hW9⟩ : ∃ W9, w7.setCell ⟨h6, 1, none⟩ (.slice (some ⟨g9, 0, none⟩) ((rsOf xs r).length + 1) c9) = W9 := ⟨_, rfl⟩
              have hf9 : Fr w7 W9 (fun b => b = h6) := by rw [← hW9]; exact Fr.setCell w7 (fun b => b = h6) (p := ⟨h6, 1, none⟩) rfl _
              have HC9 : Hid (W9.heap[h6]? = some (.cells #[.slice Q1 (pn - 1) (pd - 1), .slice (some ⟨g9, 0, none⟩) ((rsOf xs r).length + 1) c9, .int .i64 ((atN xs r : Nat) : Int)] 36 (0, 0))) := Lib.hid (by
                rw [← hW9]
                have h := heap_setCell_same w7 h6 1 _ _ (.slice (some ⟨g9, 0, none⟩) ((rsOf xs r).length + 1) c9) HCE.out
                exact h)
              have HROW9 : Hid (Row W9 (fun b => (b = h6 ∨ b = w.heap.size) ∨ M b) w1.heap.size (.slice (some ⟨g9, 0, none⟩) ((rsOf xs r).length + 1) c9) (rsOf xs (r + 1))) := Lib.hid (by
                rw [rsOf_succ xs (by omega : 0 < r)]
                exact hrow7.turn (hf9.less (fun b hb => .inl (.inl hb))) (fun b hb => .inl hb))
              have HB9 : Hid (Below w1.heap.size w1 W9) := Lib.hid (((HB.out.trans (HAL.out.mono hsr)).grown hg7 hBS (fun b hb => HROW.out.block_ge b hb)).trans (fr_base hf9 (fun b hb => by rw [hb]; have := HH6.out; omega) (Nat.le_trans hBS hg7.size)))
              clear hrow7 hg7 hat7 hf9 c71 f71
              rw [hW9]
              clear hW9
              have x9 := cellK_of_heap HC9.out (i := 2) (x := .int .i64 ((atN xs r : Nat) : Int)) rfl
              have y9 := freeK_of_heap (i := 2) HC9.out
              have v9 : W9.cell? ⟨g, r, none⟩ = some (.slice (some ⟨b3, off3, none⟩) qn qd) := (HB9.out.cell (p := ⟨g, r, none⟩) hgl').trans HCR.out
              have ha9 : IntKind.i64.wrap (8 + (qn : Int)) = ((qn + 8 : Nat) : Int) := by rw [IntWalk.i64_in _ (by omega)]; omega
              have hz9 : IntKind.i64.wrap (((atN xs r : Nat) : Int) + ((qn + 8 : Nat) : Int)) = ((atN xs (r + 1) : Nat) : Int) := by
                have h := HSZ.out
                have h2 := atN_le (xs := xs) (r + 1) (fun j hj => HS.out.1 j (by omega))
                have h3 := HX.out.1
                have h4 := HQL.out
                rw [IntWalk.i64_in _ (by omega)]; omega
              have hgne : h6 ≠ g := by have := HH6.out; omega
              have hr9 : r ≤ 1000000000 := by
                have h := atN_ge (xs := xs) r (fun j hj => (HOK.out j hj).1)
                have h2 := atN_le (xs := xs) r (fun j hj => (HOK.out j hj).1)
                have h3 := HX.out.1
                omega
              clear hcA hcw x0 x1 x2 y0 y1 y2 d3 d4 hx3
              generalize (if qd = 1 then some (⟨b3, off3, none⟩ : Addr) else some ⟨b3, off3 + 1, none⟩) = Q3v
              go_wp2_with fail
              go_region_law (first | fail)
              all_goals
                go_wp2_with fail
                have hw10 : wrap64 (((atN xs r : Nat) : Int) + ((qn : Int) + 8)) = ((atN xs (r + 1) : Nat) : Int) := by
                  have h := HSZ.out
                  have h2 := atN_le (xs := xs) (r + 1) (fun j hj => HS.out.1 j (by omega))
                  have h3 := HX.out.1
                  have h4 := HQL.out
                  unfold wrap64
                  omega
                rw [hw10]
                have hf11 : Fr W9 (W9.setCell ⟨h6, 2, none⟩ (.int .i64 ((atN xs (r + 1) : Nat) : Int))) (fun b => b = h6) := Fr.setCell W9 (fun b => b = h6) (p := ⟨h6, 2, none⟩) rfl _
                have hf10 : Fr W9 (W9.setCell ⟨h6, 2, none⟩ (.int .i64 ((atN xs (r + 1) : Nat) : Int))).drew (fun b => b = h6) := ⟨hf11.os, hf11.tape, hf11.output, hf11.size, hf11.block⟩
                refine ⟨⟨r + 1, .slice (some ⟨g9, 0, none⟩) ((rsOf xs r).length + 1) c9, by omega, by omega, rfl, Lib.hid (fun j hj => ?_), Lib.hid ?_, Lib.hid ?_, Lib.hid ?_⟩, by simp [intOf]; omega⟩
                · by_cases e : j = r
                  · rw [e]; exact HOKr.out
                  · exact HOK.out j (by omega)
                · exact heap_setCell_same W9 h6 2 _ _ (.int .i64 ((atN xs (r + 1) : Nat) : Int)) HC9.out
                · exact HROW9.out.turn (hf10.less (fun b hb => .inl (.inl hb))) (fun b hb => .inl hb)
                · exact HB9.out.trans (fr_base hf10 (fun b hb => by rw [hb]; have := HH6.out; omega) HB9.out.size)
          · have d4 : (ix (pT xs r) 0 != 1) = true := by simp [hi3]
            go_wp2_with fail
            (try simp only [Exit.inBlock, Exit.then])
            have hfin : Fr wr (((wr.setCell ⟨w.heap.size, 0, none⟩ (.slice Q1 (pn - 1) (pd - 1))).setCell ⟨w.heap.size, 1, none⟩ (.slice RA (rsOf xs r).length rc)).setCell ⟨w.heap.size, 2, none⟩ (.int .i64 ((atN xs r : Nat) : Int))) (fun b => b = w.heap.size) := ((Fr.setCell wr (fun b => b = w.heap.size) (p := ⟨w.heap.size, 0, none⟩) rfl _).trans (Fr.setCell _ (fun b => b = w.heap.size) (p := ⟨w.heap.size, 1, none⟩) rfl _) (fun b hb => .inl hb)).trans (Fr.setCell _ (fun b => b = w.heap.size) (p := ⟨w.heap.size, 2, none⟩) rfl _) (fun b hb => .inl hb)
            refine bodyPost_ret (v := .tuple #[.agg #[.slice Q1 (pn - 1) (pd - 1), .slice RA (rsOf xs r).length rc, .int .i64 ((atN xs r : Nat) : Int)], .bool true]) ?_ rfl ⟨r, Q1, pn - 1, pd - 1, .slice RA (rsOf xs r).length rc, by rw [decide_eq_true (show 0 < r by omega)], ⟨HOK.out, fun h => ?_⟩, ?_, ?_, ?_⟩
            · rw [results_cell_tmp rfl]; go_simp
            · exact hi3 (by have := h.2.2; unfold mkN at this; rw [if_neg (by omega)] at this; exact this)
            · have e : bsOf xs r = bsOf xs 1 := by unfold bsOf; rw [if_neg (by omega), if_neg (by omega)]
              rw [e]
              exact ((HBT.out.turn (Fr.of_below HB.out) (fun b hb => .inl hb)).turn (hfin.less (fun b hb => .inl hb)) (fun b hb => .inl (.inr hb)))
            · exact (HROW.out.turn (hfin.less (fun b hb => .inl (.inr hb))) (M' := M) (fun b hb => .inl (.inr hb))).low HB1.out.size
            · exact HB1.out.trans ((HB.out.mono HB1.out.size).trans (fr_base hfin (fun b hb => by rw [hb]; exact Nat.le_refl _) (Nat.le_trans HB1.out.size HB.out.size)))
        · obtain rfl : r = k := by omega
          have hrk1 : ¬ ((r : Int) < (r : Int)) := by omega
          have x0 := cellK_of_heap HC.out (i := 0) (x := .slice Q1 (pn - 1) (pd - 1)) rfl
          have x1 := cellK_of_heap HC.out (i := 1) (x := .slice RA (rsOf xs r).length rc) rfl
          have x2 := cellK_of_heap HC.out (i := 2) (x := .int .i64 ((atN xs r : Nat) : Int)) rfl
          have hcw2 : wr.heap[w.heap.size]? = some (.cells #[.slice none 0 0, .slice none 0 0, .int .i64 0] 36 (0, 0)) := (HB.out.block _ (heapK_lt HR2.out)).trans HR2.out
          have z0 := cellK_of_heap hcw2 (i := 0) (x := .slice none 0 0) rfl
          have z1 := cellK_of_heap hcw2 (i := 1) (x := .slice none 0 0) rfl
          have z2 := cellK_of_heap hcw2 (i := 2) (x := .int .i64 0) rfl
          have f0 := freeK_of_heap (i := 0) hcw2
          have f1 := freeK_of_heap (i := 1) hcw2
          have f2 := freeK_of_heap (i := 2) hcw2
          clear hcw2
          go_wp2_with fail
          (try simp only [Exit.inBlock, Exit.then])
          have hfin : Fr wr (((wr.setCell ⟨w.heap.size, 0, none⟩ (.slice Q1 (pn - 1) (pd - 1))).setCell ⟨w.heap.size, 1, none⟩ (.slice RA (rsOf xs r).length rc)).setCell ⟨w.heap.size, 2, none⟩ (.int .i64 ((atN xs r : Nat) : Int))) (fun b => b = w.heap.size) := ((Fr.setCell wr (fun b => b = w.heap.size) (p := ⟨w.heap.size, 0, none⟩) rfl _).trans (Fr.setCell _ (fun b => b = w.heap.size) (p := ⟨w.heap.size, 1, none⟩) rfl _) (fun b hb => .inl hb)).trans (Fr.setCell _ (fun b => b = w.heap.size) (p := ⟨w.heap.size, 2, none⟩) rfl _) (fun b hb => .inl hb)
          refine bodyPost_ret (v := .tuple #[.agg #[.slice Q1 (pn - 1) (pd - 1), .slice RA (rsOf xs r).length rc, .int .i64 ((atN xs r : Nat) : Int)], .bool true]) ?_ rfl ⟨r, Q1, pn - 1, pd - 1, .slice RA (rsOf xs r).length rc, by rw [decide_eq_true (show 0 < r by omega)], ⟨HOK.out, fun h => ?_⟩, ?_, ?_, ?_⟩
          · rw [results_cell_tmp rfl]; go_simp
          · exact HS.out.2 h.1
          · have e : bsOf xs r = bsOf xs 1 := by unfold bsOf; rw [if_neg (by omega), if_neg (by omega)]
            rw [e]
            exact ((HBT.out.turn (Fr.of_below HB.out) (fun b hb => .inl hb)).turn (hfin.less (fun b hb => .inl hb)) (fun b hb => .inl (.inr hb)))
          · exact (HROW.out.turn (hfin.less (fun b hb => .inl (.inr hb))) (M' := M) (fun b hb => .inl (.inr hb))).low HB1.out.size
          · exact HB1.out.trans ((HB.out.mono HB1.out.size).trans (fr_base hfin (fun b hb => by rw [hb]; exact Nat.le_refl _) (Nat.le_trans HB1.out.size HB.out.size)))
  · have d2 : (ix (pT xs 0) 0 != 0) = true := by simp [hi0]
    go_wp2_with fail
    (try simp only [Exit.inBlock, Exit.then])
    refine bodyPost_ret (v := .tuple #[.agg #[.slice none 0 0, .slice none 0 0, .int .i64 0], .bool false]) ?_ rfl ⟨0, none, 0, 0, .slice none 0 0, rfl, ⟨fun j hj => absurd hj (Nat.not_lt_zero j), fun h => ?_⟩, ⟨rfl, fun h => absurd h (Nat.lt_irrefl 0)⟩, Row.nil_ _ _ _, ?_⟩
    · rw [results_cell_tmp rfl]; go_simp
    · exact hi0 h.2.2
    · exact HB1.out.trans (fr_base (((Fr.setCell w1 (fun b => b = w.heap.size) (p := ⟨w.heap.size, 0, none⟩) rfl _).trans (Fr.setCell _ (fun b => b = w.heap.size) (p := ⟨w.heap.size, 1, none⟩) rfl _) (fun b hb => .inl hb)).trans (Fr.setCell _ (fun b => b = w.heap.size) (p := ⟨w.heap.size, 2, none⟩) rfl _) (fun b hb => .inl hb)) (fun b hb => by rw [hb]; exact Nat.le_refl _) HB1.out.size)
end Go.Proofs.Ytadajkgiijpakaa
