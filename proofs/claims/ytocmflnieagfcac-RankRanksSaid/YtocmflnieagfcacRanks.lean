/-
  CONTRACT of Ranks of package rank, and the plain mathematics of ranks, over this translation.
-/
import Derived.Test.YtocmflnieagfcacWalks5
namespace Go.Proofs.Ytocmflnieagfcac
open Go.RowKit
open RankP
set_option linter.unusedVariables false

/-! ### Plain: numbers that are all there, each once -/
theorem pigeon : ∀ (n : Nat) (f : Nat → Nat), (∀ i < n, f i < n) → (∀ i < n, ∀ j < n, f i = f j → i = j) → ∀ j < n, ∃ i < n, f i = j := by
  intro n
  induction n with
  | zero => intro f _ _ j hj; omega
  | succ n ih =>
    intro f hb hi j hj
    by_cases hfn : ∃ i < n, f i = n
    · obtain ⟨i0, hi0, hfi0⟩ := hfn
      have hfnn : f n < n := by
        have h1 := hb n (by omega)
        rcases Nat.lt_or_ge (f n) n with h | h
        · exact h
        · exfalso
          have : f n = f i0 := by omega
          have := hi n (by omega) i0 (by omega) this
          omega
      by_cases hjn : j = n
      · exact ⟨i0, by omega, by omega⟩
      · obtain ⟨i, hin, hgi⟩ := ih (fun i => if f i = n then f n else f i)
          (fun i hin => by
            show (if f i = n then f n else f i) < n
            split
            · exact hfnn
            · have := hb i (by omega); omega)
          (fun a ha b hb' hab => by
            have hab : (if f a = n then f n else f a) = (if f b = n then f n else f b) := hab
            by_cases h1 : f a = n
            · by_cases h2 : f b = n
              · exact hi a (by omega) b (by omega) (by omega)
              · rw [if_pos h1, if_neg h2] at hab
                have := hi n (by omega) b (by omega) hab
                omega
            · by_cases h2 : f b = n
              · rw [if_neg h1, if_pos h2] at hab
                have := hi a (by omega) n (by omega) hab
                omega
              · rw [if_neg h1, if_neg h2] at hab
                exact hi a (by omega) b (by omega) hab)
          j (by omega)
        have hgi : (if f i = n then f n else f i) = j := hgi
        by_cases h1 : f i = n
        · rw [if_pos h1] at hgi; exact ⟨n, by omega, hgi⟩
        · rw [if_neg h1] at hgi; exact ⟨i, by omega, hgi⟩
    · have hnone : ∀ i < n, f i ≠ n := fun i hin h => hfn ⟨i, hin, h⟩
      have hall := ih f (fun i hin => by have h1 := hb i (by omega); have h2 := hnone i hin; omega) (fun a ha b hb' hab => hi a (by omega) b (by omega) hab)
      by_cases hfnn : f n = n
      · by_cases hjn : j = n
        · exact ⟨n, by omega, by omega⟩
        · obtain ⟨i, h1, h2⟩ := hall j (by omega); exact ⟨i, by omega, h2⟩
      · obtain ⟨i, h1, h2⟩ := hall (f n) (by have := hb n (by omega); omega)
        have := hi i (by omega) n (by omega) h2
        omega

/-- Is xs an order of the numbers below its length? -/
def Right (xs : List Int) : Prop := (∀ i < xs.length, 0 ≤ ix xs i ∧ ix xs i < xs.length) ∧ ∀ i < xs.length, ∀ j < i, ix xs i ≠ ix xs j
/-- rs tells where each number of xs stands. -/
def RanksOf (xs rs : List Int) : Prop := rs.length = xs.length ∧ ∀ i < xs.length, ix rs (ix xs i).toNat = i
theorem Right.inj {xs : List Int} (h : Right xs) : ∀ i < xs.length, ∀ j < xs.length, (ix xs i).toNat = (ix xs j).toNat → i = j := by
  intro i hi j hj e
  have e' : ix xs i = ix xs j := by
    have h1 := h.1 i hi
    have h2 := h.1 j hj
    omega
  rcases Nat.lt_trichotomy i j with hl | hl | hl
  · exact absurd e'.symm (h.2 j hj i hl)
  · exact hl
  · exact absurd e' (h.2 i hi j hl)
theorem Right.onto {xs : List Int} (h : Right xs) : ∀ j < xs.length, ∃ i < xs.length, (ix xs i).toNat = j :=
  pigeon xs.length (fun i => (ix xs i).toNat) (fun i hi => by have := h.1 i hi; omega) h.inj
theorem RanksOf.right {xs rs : List Int} (h : Right xs) (hr : RanksOf xs rs) : Right rs := by
  have key : ∀ j < rs.length, ∃ i < xs.length, (ix xs i).toNat = j ∧ ix rs j = i := by
    intro j hj
    obtain ⟨i, hi, e⟩ := h.onto j (by rw [← hr.1]; exact hj)
    exact ⟨i, hi, e, by rw [← e]; exact hr.2 i hi⟩
  refine ⟨fun j hj => ?_, fun j hj k hk e => ?_⟩
  · obtain ⟨i, hi, _, e⟩ := key j hj
    rw [e, hr.1]; omega
  · obtain ⟨i, hi, e1, e2⟩ := key j hj
    obtain ⟨i', hi', e3, e4⟩ := key k (by omega)
    have : i = i' := by omega
    subst this
    omega
theorem RanksOf.back {xs rs bs : List Int} (h : Right xs) (hr : RanksOf xs rs) (hb : RanksOf rs bs) : bs = xs := by
  refine list_ext_getD (by rw [hb.1, hr.1]) fun j hj => ?_
  have hj' : j < xs.length := by rw [← hr.1, ← hb.1]; exact hj
  have h1 := hr.2 j hj'
  have h2 := h.1 j hj'
  have h3 := hb.2 (ix xs j).toNat (by rw [hr.1]; omega)
  rw [h1] at h3
  simp only [Int.toNat_natCast] at h3
  rw [h3]; omega

/-! ### A slice of bool that the call itself made -/
theorem infoBool : (Try.prog.info? 4).map (fun i => (i.zero, i.size, i.bytes)) = some (some (.bool false), 1, 1) := by kernel_rfl
def bx (bs : List Bool) (i : Nat) : Bool := bs.getD i false
def OwnB (w : World) (base : Nat) (v : Value) (n : Nat) (bs : List Bool) : Prop := w.ownsRow base 4 1 v n (bs.map Value.bool)
section
variable {w w' : World} {base n c g : Nat} {v : Value} {bs : List Bool}
theorem OwnB.len (h : OwnB w base v n bs) : bs.length = n := by simpa using h.1
theorem OwnB.cell (h : OwnB w base (.slice (some ⟨g, 0, none⟩) n c) n bs) {j : Nat} (hj : j < n) : w.cell? ⟨g, j, none⟩ = some (.bool (bx bs j)) := by
  have hl : j < bs.length := by rw [h.len]; exact hj
  rw [h.cellAt j (by omega)]
  simp [bx, List.getD, hl]
theorem OwnB.free (h : OwnB w base (.slice (some ⟨g, 0, none⟩) n c) n bs) (j : Nat) : w.frozen? ⟨g, j, none⟩ = false := h.frozenAt j
theorem OwnB.store (h : OwnB w base (.slice (some ⟨g, 0, none⟩) n c) n bs) (j : Nat) (u : Bool) : OwnB (w.setCell ⟨g, j, none⟩ (.bool u)) base (.slice (some ⟨g, 0, none⟩) n c) n (bs.set j u) := by
  have := (h.stored j (.bool u)).1
  unfold OwnB; rw [List.map_set]; exact this
theorem OwnB.far (h : OwnB w base (.slice (some ⟨g, 0, none⟩) n c) n bs) {p : Addr} (hp : g ≠ p.block) (u : Value) : OwnB (w.setCell p u) base (.slice (some ⟨g, 0, none⟩) n c) n bs := by
  refine ⟨h.1, ?_⟩
  rcases h.2 with h | ⟨g', cap, cur, hv, hbg, hh, r⟩
  · exact .inl h
  · refine .inr ⟨g', cap, cur, hv, hbg, ?_, r⟩
    cases hv
    rw [Below.heap_setCell w p u g hp]; exact hh
theorem Own.far {xs : List Int} (h : Own w base (.slice (some ⟨g, 0, none⟩) n c) n xs) {p : Addr} (hp : g ≠ p.block) (u : Value) : Own (w.setCell p u) base (.slice (some ⟨g, 0, none⟩) n c) n xs := by
  refine ⟨h.1, ?_⟩
  rcases h.2 with h | ⟨g', cap, cur, hv, hbg, hh, r⟩
  · exact .inl h
  · refine .inr ⟨g', cap, cur, hv, hbg, ?_, r⟩
    cases hv
    rw [Below.heap_setCell w p u g hp]; exact hh
theorem Own.home {xs : List Int} (h : Own w base (.slice (some ⟨g, 0, none⟩) n c) n xs) : g < w.heap.size := by
  rcases h.2 with ⟨e, _⟩ | ⟨g', cap, cur, e, _, hh, _⟩
  · cases e
  · cases e
    rcases Nat.lt_or_ge g w.heap.size with hlt | hge
    · exact hlt
    · rw [Array.getElem?_eq_none hge] at hh; cases hh
theorem bx_set (bs : List Bool) (j k : Nat) (u : Bool) (hj : j < bs.length) : bx (bs.set j u) k = if j = k then u else bx bs k := by
  unfold bx
  by_cases h : j = k
  · subst h; simp [List.getD, hj]
  · simp [List.getD, h]
theorem bx_replicate (n j : Nat) : bx (List.replicate n false) j = false := by
  unfold bx
  by_cases h : j < n <;> simp [List.getD, h]
end

theorem wpl_makeB {w : World} {ops : Array Oper} {rest : List Oper} {o : Oper} {a : Act} {Q : Exit → Act → World → Prop} (hgd : o.guard = none) (l c : Operand)
    (ho : o.op = Op.makeSlice 31 l c) (base n : Nat) (hl : a.eval l = .int .i64 (n : Int)) (hc : a.eval c = .int .i64 (n : Int)) (hn : n ≤ 1099511627776) (hbase : base ≤ w.heap.size)
    (h : ∀ w', OwnB w' base (.slice (some ⟨w.heap.size, 0, none⟩) n n) n (List.replicate n false) → w.grownBy w' none → wpList Try.prog ops Q rest (a.put o.dst (.slice (some ⟨w.heap.size, 0, none⟩) n n)) w') :
    wpList Try.prog ops Q (o :: rest) a w := by
  obtain ⟨i0, hi, hz0, hz1, hz2⟩ := info_parts infoBool
  refine wpList_make_full w hgd l c 31 ho base 4 i0 (.bool false) 1 Try.underlying31 hi hz0 hz1 .i64 .i64 n n n hl hc rfl rfl (by rw [hz2]; omega) (by unfold maxLen; omega) hbase ?_
  intro w' hown hg
  refine h w' ?_ hg
  unfold OwnB
  have e : (madeCells (Value.bool false).cells (n * 1)).toList = (List.replicate n false).map Value.bool := by
    simp only [madeCells, Value.cells, Array.toList_map, Array.toList_range, Nat.mul_one, List.map_replicate]
    refine List.eq_replicate_iff.2 ⟨by simp, fun b hb => ?_⟩
    obtain ⟨x, _, rfl⟩ := List.mem_map.1 hb
    have : x % 1 = 0 := Nat.mod_one x
    simp [this]
  rw [← e]; exact hown

/-! ### The loop of Ranks -/
def RanksTo (xs rs : List Int) (bs : List Bool) (k : Nat) : Prop :=
  rs.length = xs.length ∧ bs.length = xs.length ∧ (∀ i < k, 0 ≤ ix xs i ∧ ix xs i < xs.length) ∧ (∀ i < k, ∀ j < i, ix xs i ≠ ix xs j) ∧ (∀ i < k, ix rs (ix xs i).toNat = i) ∧ (∀ j < xs.length, bx bs j = true ↔ ∃ i < k, (ix xs i).toNat = j)
theorem RanksTo.start (xs : List Int) (n : Nat) (h : xs.length = n) : RanksTo xs (List.replicate n 0) (List.replicate n false) 0 :=
  ⟨by simp [h], by simp [h], fun i hi => absurd hi (by omega), fun i hi => absurd hi (by omega), fun i hi => absurd hi (by omega), fun j hj => by
    rw [bx_replicate]; constructor
    · intro h; cases h
    · rintro ⟨i, hi, _⟩; omega⟩
theorem RanksTo.twice {xs rs : List Int} {bs : List Bool} {k : Nat} (h : RanksTo xs rs bs k) (hk : k < xs.length) (h0 : 0 ≤ ix xs k) (h1 : ix xs k < xs.length) (hb : bx bs (ix xs k).toNat = true) : ¬ Right xs := by
  intro hr
  obtain ⟨i, hi, e⟩ := (h.2.2.2.2.2 _ (by omega)).1 hb
  have := hr.inj i (by omega) k hk e
  omega
theorem RanksTo.step {xs rs : List Int} {bs : List Bool} {k : Nat} (h : RanksTo xs rs bs k) (hk : k < xs.length) (h0 : 0 ≤ ix xs k) (h1 : ix xs k < xs.length) (hb : bx bs (ix xs k).toNat = false) :
    RanksTo xs (rs.set (ix xs k).toNat k) (bs.set (ix xs k).toNat true) (k + 1) := by
  have hno : ∀ i < k, (ix xs i).toNat ≠ (ix xs k).toNat := by
    intro i hi e
    have := (h.2.2.2.2.2 (ix xs k).toNat (by omega)).2 ⟨i, hi, e⟩
    rw [hb] at this; cases this
  refine ⟨by simp [h.1], by simp [h.2.1], fun i hi => ?_, fun i hi j hj => ?_, fun i hi => ?_, fun j hj => ?_⟩
  · by_cases e : i = k
    · subst e; exact ⟨h0, h1⟩
    · exact h.2.2.1 i (by omega)
  · by_cases e : i = k
    · subst e; intro e2; exact hno j hj (by rw [e2])
    · exact h.2.2.2.1 i (by omega) j hj
  · rw [ix_set _ _ _ _ (by rw [h.1]; omega)]
    by_cases e : i = k
    · subst e; rw [if_pos rfl]
    · rw [if_neg (fun e2 => hno i (by omega) e2.symm)]; exact h.2.2.2.2.1 i (by omega)
  · rw [bx_set _ _ _ _ (by rw [h.2.1]; omega)]
    by_cases e : (ix xs k).toNat = j
    · rw [if_pos e]; simp only [true_iff]; exact ⟨k, by omega, e⟩
    · rw [if_neg e, h.2.2.2.2.2 j hj]
      constructor
      · rintro ⟨i, hi, e2⟩; exact ⟨i, by omega, e2⟩
      · rintro ⟨i, hi, e2⟩
        refine ⟨i, ?_, e2⟩
        rcases Nat.lt_or_ge i k with hl | hg
        · exact hl
        · obtain rfl : i = k := by omega
          exact absurd e2 e
theorem RanksTo.done {xs rs : List Int} {bs : List Bool} (h : RanksTo xs rs bs xs.length) : Right xs ∧ RanksOf xs rs := ⟨⟨h.2.2.1, h.2.2.2.1⟩, h.1, h.2.2.2.2.1⟩

/-- What Ranks answers. -/
def RanksPost (xs : List Int) (n : Nat) (w : World) (e : Ending) (w' : World) : Prop :=
  ((∃ v rs, e = .returned (.tuple #[v, .int .i64 0]) ∧ Own w' w.heap.size v n rs ∧ Right xs ∧ RanksOf xs rs) ∨
    (e = .returned (.tuple #[.slice none 0 0, .int .i64 12]) ∧ ¬ Right xs)) ∧ Below w.heap.size w w'

set_option maxHeartbeats 3200000 in
theorem ranks_any {w : World} {B n c : Nat} {A : Option Addr} {xs : List Int} (hx : Rd w B A n xs) (hn : n ≤ 1000000) (hB : B ≤ w.heap.size) :
    Calls Try.prog 21 #[.slice A n c] w (RanksPost xs n w) := by
  have HX := Lib.hid hx
  have HXL := Lib.hid hx.1
  clear hx
  go_enter Try.func21, Try.ntmps21
  go_wp2_with (first
    | (at_make; refine wpl_make rfl (.tmp 9) (.tmp 9) rfl w.heap.size n rfl rfl (by omega) (Nat.le_refl _) ?_; intro w1 hown1 hg1; (have hb1 : Below w.heap.size w w1 := (Below.refl _ _).grown hg1 (Nat.le_refl _) (fun _ h => by cases h)); (have HB1 := Lib.hid hb1); (have hs1 : w.heap.size ≤ w1.heap.size := hb1.size); (have HO1 := Lib.hid hown1); clear hb1 hown1 hg1)
    | (at_make; refine wpl_makeB rfl (.tmp 12) (.tmp 12) rfl w.heap.size n rfl rfl (by omega) hs1 ?_; intro w2 hown2 hg2))
  have hb2 : Below w1.heap.size w1 w2 := (Below.refl _ _).grown hg2 (Nat.le_refl _) (fun _ h => by cases h)
  have hlt : w.heap.size < w1.heap.size := HO1.out.home
  have HO : Hid (Own w2 w.heap.size (.slice (some ⟨w.heap.size, 0, none⟩) n n) n (List.replicate n 0)) := Lib.hid (HO1.out.kept hb2)
  have HOB := Lib.hid hown2
  have HB : Hid (Below w.heap.size w w2) := Lib.hid (HB1.out.trans (hb2.mono hs1))
  clear hown2 hg2 hb2 HO1 HB1
  obtain ⟨G, hG⟩ : ∃ G, G = w1.heap.size := ⟨_, rfl⟩
  rw [← hG] at HOB hlt hs1 ⊢
  have hne : w.heap.size ≠ G := by omega
  clear hG
  go_loopw [16] (fun i wr => ∃ (k : Nat) (rs : List Int) (bs : List Bool), k ≤ n ∧ i = .int .i64 (k : Int) ∧ Hid (Own wr w.heap.size (.slice (some ⟨w.heap.size, 0, none⟩) n n) n rs) ∧ Hid (OwnB wr w.heap.size (.slice (some ⟨G, 0, none⟩) n n) n bs) ∧
      Hid (RanksTo xs rs bs k) ∧ Hid (Below w.heap.size w wr)) (fun i _ => n - (intOf i).toNat)
  case atStart => exact ⟨0, _, _, by omega, rfl, HO, HOB, Lib.hid (RanksTo.start xs n HXL.out), HB⟩
  case round =>
    clear HO HOB HB
    obtain ⟨k, rs, bs, hk, rfl, HO, HOB, HT, HB⟩ := hrel
    by_cases hlt2 : k < n
    · obtain ⟨b, off, rfl, hb, hc⟩ := (HX.out.below (HB.out.mono hB)).at_ hlt2
      by_cases h0 : ix xs k < 0
      · have HN : Hid (¬ Right xs) := Lib.hid (fun hr => by have := hr.1 k (by rw [HXL.out]; exact hlt2); omega)
        go_wp2
        go_ret2
        exact ⟨.inr ⟨rfl, HN.out⟩, HB.out⟩
      · by_cases h1 : (n : Int) ≤ ix xs k
        · have HN : Hid (¬ Right xs) := Lib.hid (fun hr => by have := hr.1 k (by rw [HXL.out]; exact hlt2); rw [HXL.out] at this; omega)
          go_wp2
          go_ret2
          exact ⟨.inr ⟨rfl, HN.out⟩, HB.out⟩
        · obtain ⟨q, hq⟩ := Int.eq_ofNat_of_zero_le (show 0 ≤ ix xs k by omega)
          have hqn : q < n := by omega
          have HQ := Lib.hid hq
          rw [hq] at hc
          clear h0 h1 hq
          have hcb := HOB.out.cell hqn
          by_cases hbq : bx bs q = true
          · have HN : Hid (¬ Right xs) := Lib.hid (HT.out.twice (by rw [HXL.out]; exact hlt2) (by rw [HQ.out]; omega) (by rw [HQ.out, HXL.out]; omega) (by rw [HQ.out]; exact hbq))
            go_wp2
            go_ret2
            exact ⟨.inr ⟨rfl, HN.out⟩, HB.out⟩
          · rw [Bool.not_eq_true] at hbq
            have hci := HO.out.cell hqn
            have hfi := HO.out.free q
            have hfb := HOB.out.free q
            have HT2 : Hid (RanksTo xs (rs.set q k) (bs.set q true) (k + 1)) := Lib.hid (by
              have := HT.out.step (by rw [HXL.out]; exact hlt2) (by rw [HQ.out]; omega) (by rw [HQ.out, HXL.out]; omega) (by rw [HQ.out]; exact hbq)
              rw [HQ.out] at this
              exact this)
            have HO2 := Lib.hid ((HO.out.far (p := ⟨G, q, none⟩) hne (.bool true)).store q k)
            have HOB2 := Lib.hid ((HOB.out.store q true).far (p := ⟨w.heap.size, q, none⟩) (fun e => hne e.symm) (.int .i64 (k : Int)))
            have HB2 := Lib.hid ((HB.out.setCell (p := ⟨G, q, none⟩) hs1 (.bool true)).setCell (p := ⟨w.heap.size, q, none⟩) (Nat.le_refl _) (.int .i64 (k : Int)))
            go_wp2
            go_roundw
            case rel => exact ⟨k + 1, _, _, by omega, by go_num, HO2, HOB2, HT2, HB2⟩
            case measure => simp [intOf]; omega
    · obtain rfl : k = n := by omega
      have HD := Lib.hid (RanksTo.done (by rw [HXL.out]; exact HT.out))
      go_wp2
      go_ret2
      exact ⟨.inl ⟨_, _, rfl, HO.out, HD.out.1, HD.out.2⟩, HB.out⟩
end Go.Proofs.Ytocmflnieagfcac
