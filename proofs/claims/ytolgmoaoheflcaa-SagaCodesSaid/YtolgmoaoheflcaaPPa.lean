/-
  Plans in bytes, pure: what is written is read, and what is read is written.
  The document's reader's end, over whatever state.
-/
import Derived.Test.YtolgmoaoheflcaaPPp
import Derived.Test.YtolgmoaoheflcaaPRp
namespace Go.Proofs.Ytolgmoaoheflcaa
section
open Go.RowKit
open ByteP CodeP
set_option linter.unusedVariables false
set_option maxRecDepth 10000
def encPs (l : List (Nat × Nat)) : List Int := (l.map (fun p => enc p.1 ++ enc p.2)).flatten
def encP (l : List (Nat × Nat)) : List Int := enc l.length ++ encPs l
def okP (l : List (Nat × Nat)) : Prop := ∀ p ∈ l, p.1 ≤ 1099511627776 ∧ p.2 ≤ 1099511627776
def okN (l : List Nat) : Prop := ∀ n ∈ l, n ≤ 1099511627776
theorem encPs_cons (p : Nat × Nat) (l : List (Nat × Nat)) : encPs (p :: l) = enc p.1 ++ (enc p.2 ++ encPs l) := by simp [encPs]
theorem encPs_ge (l : List (Nat × Nat)) : l.length ≤ (encPs l).length := by
  induction l with
  | nil => simp [encPs]
  | cons p l ih =>
    rw [encPs_cons, List.length_append, List.length_append, List.length_cons]
    have := enc_pos p.1
    omega
theorem rdP_encs : ∀ (l : List (Nat × Nat)) (r : List Int), okP l → rdP l.length (encPs l ++ r) = .inr (l, r)
  | [], r, _ => by simp [rdP, encPs]
  | p :: l, r, h => by
    have h1 := h p (by simp)
    have e : rd2 (encPs (p :: l) ++ r) = .inr (p, encPs l ++ r) := by
      rw [encPs_cons, List.append_assoc, List.append_assoc]
      exact rd2_ok (num_enc h1.1 _) (num_enc h1.2 _)
    show rdP (l.length + 1) _ = _
    rw [rdP_step e, rdP_encs l r (fun q hq => h q (by simp [hq]))]
    rfl
theorem cnt_enc {n : Nat} (h : n ≤ 1099511627776) {r : List Int} (hr : n ≤ r.length) : cnt (enc n ++ r) = .inr (n, r) := by
  unfold cnt
  rw [num_enc h]
  simp only
  rw [if_neg (by omega)]
theorem lstP_enc {l : List (Nat × Nat)} (h : okP l) (hl : l.length ≤ 1099511627776) (r : List Int) : lstP (encP l ++ r) = .inr (l, r) := by
  unfold lstP encP
  rw [List.append_assoc, cnt_enc hl (by rw [List.length_append]; have := encPs_ge l; omega)]
  exact rdP_encs l r h
theorem rdP_back : ∀ (n : Nat) (r : List Int) (l : List (Nat × Nat)) (r' : List Int), Bytes r → rdP n r = .inr (l, r') → l.length = n ∧ okP l ∧ r = encPs l ++ r'
  | 0, r, l, r', hb, h => by
    simp [rdP] at h
    obtain ⟨h1, h2⟩ := h
    subst h1 h2
    exact ⟨rfl, (fun p hp => by simp at hp), by simp [encPs]⟩
  | n + 1, r, l, r', hb, h => by
    rw [rdP] at h
    split at h
    · cases h
    · next p r1 hx =>
      obtain ⟨ra, h1, h2⟩ := rd2_parts hx
      have b1 := num_back hb h1
      have hba := num_bytes hb h1
      have b2 := num_back hba h2
      have hb1 := num_bytes hba h2
      split at h
      · cases h
      · next l2 r2 hy =>
        injection h with h
        injection h with e1 e2
        subst e1 e2
        obtain ⟨c1, c2, c3⟩ := rdP_back n r1 l2 r2 hb1 hy
        refine ⟨by simp [c1], fun q hq => ?_, ?_⟩
        · rcases List.mem_cons.1 hq with e | e
          · subst e; exact ⟨b1.1, b2.1⟩
          · exact c2 q e
        · rw [encPs_cons, b1.2, b2.2, c3]; simp only [List.append_assoc]
theorem lstP_back {r : List Int} {l : List (Nat × Nat)} {r' : List Int} (hb : Bytes r) (h : lstP r = .inr (l, r')) : okP l ∧ l.length ≤ 1099511627776 ∧ r = encP l ++ r' := by
  unfold lstP at h
  split at h
  · cases h
  · next n r1 hc =>
    obtain ⟨hn, _⟩ := cnt_ok hc
    have b1 := num_back hb hn
    obtain ⟨c1, c2, c3⟩ := rdP_back n r1 l r' (num_bytes hb hn) h
    refine ⟨c2, by rw [c1]; exact b1.1, ?_⟩
    unfold encP
    rw [c1, b1.2, c3, List.append_assoc]
def casts2 (l : List (Nat × Nat)) : List (Int × Int) := l.map (fun p => ((p.1 : Int), (p.2 : Int)))
theorem casts2_len (l : List (Nat × Nat)) : (casts2 l).length = l.length := by simp [casts2]
theorem okI_of {n : Int} (h : okI n = true) : ∃ k : Nat, n = (k : Int) ∧ k ≤ 1099511627776 := by
  have := of_decide_eq_true h
  exact ⟨n.toNat, by omega, by omega⟩
theorem good_pairs : ∀ {ps : List (Int × Int)}, badP ps = false → ∃ l : List (Nat × Nat), ps = casts2 l ∧ okP l ∧ outP ps = encPs l
  | [], _ => ⟨[], rfl, (fun p hp => by simp at hp), rfl⟩
  | (a, b) :: ps, h => by
    have h1 : badP ((a, b) :: ps) = ((!okI a || !okI b) || badP ps) := by simp [badP]
    rw [h1] at h
    simp only [Bool.or_eq_false_iff, Bool.not_eq_false'] at h
    obtain ⟨⟨ha, hb⟩, hp⟩ := h
    obtain ⟨l, e1, e2, e3⟩ := good_pairs hp
    obtain ⟨x, rfl, hx⟩ := okI_of ha
    obtain ⟨y, rfl, hy⟩ := okI_of hb
    refine ⟨(x, y) :: l, by rw [e1]; rfl, fun p hp => ?_, ?_⟩
    · rcases List.mem_cons.1 hp with e | e
      · subst e; exact ⟨hx, hy⟩
      · exact e2 p e
    · have : outP (((x : Int), (y : Int)) :: ps) = (outI x ++ outI y) ++ outP ps := by simp [outP]
      rw [this, encPs_cons, e3, outI_nat hx, outI_nat hy, List.append_assoc]
theorem casts2_good : ∀ {l : List (Nat × Nat)}, okP l → badP (casts2 l) = false ∧ outP (casts2 l) = encPs l
  | [], _ => ⟨rfl, rfl⟩
  | (x, y) :: l, h => by
    have h0 := h (x, y) (by simp)
    obtain ⟨h1, h2⟩ := casts2_good (l := l) (fun p hp => h p (by simp [hp]))
    have e1 : badP (casts2 ((x, y) :: l)) = ((!okI (x : Int) || !okI (y : Int)) || badP (casts2 l)) := by simp [badP, casts2]
    have e2 : outP (casts2 ((x, y) :: l)) = (outI (x : Int) ++ outI (y : Int)) ++ outP (casts2 l) := by simp [outP, casts2]
    rw [e1, e2, h1, h2, okI_nat h0.1, okI_nat h0.2, outI_nat h0.1, outI_nat h0.2, encPs_cons, List.append_assoc]
    exact ⟨rfl, rfl⟩
/-- A plan's form. -/
def plE (f t : List Nat) (s b : List (Nat × Nat)) : List Int := encL f ++ (encL t ++ (encP s ++ (encP b ++ [])))
theorem plO_casts {f t : List Nat} {s b : List (Nat × Nat)} (hf : okN f) (ht : okN t) (hs : okP s) (hb : okP b) : plO (casts f) (casts t) (casts2 s) (casts2 b) = plE f t s b ∧ plB (casts f) (casts t) (casts2 s) (casts2 b) = false := by
  obtain ⟨f1, f2⟩ := casts_good hf
  obtain ⟨t1, t2⟩ := casts_good ht
  obtain ⟨s1, s2⟩ := casts2_good hs
  obtain ⟨b1, b2⟩ := casts2_good hb
  unfold plO plB plE encL encP
  rw [f1, f2, t1, t2, s1, s2, b1, b2, casts_len, casts_len, casts2_len, casts2_len]
  simp only [List.append_assoc, List.append_nil]
  exact ⟨trivial, rfl⟩
theorem pl_good {fs ts : List Int} {ps qs : List (Int × Int)} (h : plB fs ts ps qs = false) : ∃ f t s b, fs = casts f ∧ ts = casts t ∧ ps = casts2 s ∧ qs = casts2 b ∧ okN f ∧ okN t ∧ okP s ∧ okP b := by
  unfold plB at h
  simp only [Bool.or_eq_false_iff] at h
  obtain ⟨⟨⟨h1, h2⟩, h3⟩, h4⟩ := h
  obtain ⟨f, f1, f2, _⟩ := good_list h1
  obtain ⟨t, t1, t2, _⟩ := good_list h2
  obtain ⟨s, s1, s2, _⟩ := good_pairs h3
  obtain ⟨b, b1, b2, _⟩ := good_pairs h4
  exact ⟨f, t, s, b, f1, t1, s1, b1, f2, t2, s2, b2⟩
theorem plS_enc {f t : List Nat} {s b : List (Nat × Nat)} (hf : okN f) (ht : okN t) (hs : okP s) (hb : okP b) (l1 : f.length ≤ 1099511627776) (l2 : t.length ≤ 1099511627776) (l3 : s.length ≤ 1099511627776) (l4 : b.length ≤ 1099511627776) :
    (∃ r, lstS (.inr (plE f t s b)) = .inr (f, r)) ∧ (∃ r, lstS (plS1 (.inr (plE f t s b))) = .inr (t, r)) ∧ (∃ r, lstPS (plS2 (.inr (plE f t s b))) = .inr (s, r)) ∧ (∃ r, lstPS (plS3 (.inr (plE f t s b))) = .inr (b, r)) ∧ endS (plS4 (.inr (plE f t s b))) = 0 := by
  have e1 : lstS (.inr (plE f t s b)) = .inr (f, encL t ++ (encP s ++ (encP b ++ []))) := lst_enc hf l1 _
  have e1' : plS1 (.inr (plE f t s b)) = .inr (encL t ++ (encP s ++ (encP b ++ []))) := by unfold plS1; rw [e1]; rfl
  have e2 : lstS (plS1 (.inr (plE f t s b))) = .inr (t, encP s ++ (encP b ++ [])) := by rw [e1']; exact lst_enc ht l2 _
  have e2' : plS2 (.inr (plE f t s b)) = .inr (encP s ++ (encP b ++ [])) := by unfold plS2; rw [e2]; rfl
  have e3 : lstPS (plS2 (.inr (plE f t s b))) = .inr (s, encP b ++ []) := by rw [e2']; exact lstP_enc hs l3 _
  have e3' : plS3 (.inr (plE f t s b)) = .inr (encP b ++ []) := by unfold plS3; rw [e3]; rfl
  have e4 : lstPS (plS3 (.inr (plE f t s b))) = .inr (b, []) := by rw [e3']; exact lstP_enc hb l4 _
  have e4' : plS4 (.inr (plE f t s b)) = .inr [] := by unfold plS4; rw [e4]; rfl
  exact ⟨⟨_, e1⟩, ⟨_, e2⟩, ⟨_, e3⟩, ⟨_, e4⟩, by rw [e4']; rfl⟩
theorem plS_back {bs : List Int} (hb : Bytes bs) (h : endS (plS4 (.inr bs)) = 0) : ∃ f t s b, (∃ r, lstS (.inr bs) = .inr (f, r)) ∧ (∃ r, lstS (plS1 (.inr bs)) = .inr (t, r)) ∧ (∃ r, lstPS (plS2 (.inr bs)) = .inr (s, r)) ∧ (∃ r, lstPS (plS3 (.inr bs)) = .inr (b, r)) ∧
    okN f ∧ okN t ∧ okP s ∧ okP b ∧ bs = plE f t s b := by
  cases c1 : lst bs with
  | inl e =>
    have a1 : lstS (.inr bs) = .inl e := c1
    have : plS4 (.inr bs) = .inl e := by unfold plS4 plS3 plS2 plS1; rw [a1]; rfl
    rw [this] at h
    have := lst_err hb c1
    exact absurd h (by show e ≠ 0; omega)
  | inr q1 =>
    obtain ⟨f, r1⟩ := q1
    have a1 : lstS (.inr bs) = .inr (f, r1) := c1
    have b1 : plS1 (.inr bs) = .inr r1 := by unfold plS1; rw [a1]; rfl
    obtain ⟨f1, f2, f3⟩ := lst_back hb c1
    have hb1 := (lst_more hb c1).1
    cases c2 : lst r1 with
    | inl e =>
      have a2 : lstS (plS1 (.inr bs)) = .inl e := by rw [b1]; exact c2
      have : plS4 (.inr bs) = .inl e := by unfold plS4 plS3 plS2; rw [a2]; rfl
      rw [this] at h
      have := lst_err hb1 c2
      exact absurd h (by show e ≠ 0; omega)
    | inr q2 =>
      obtain ⟨t, r2⟩ := q2
      have a2 : lstS (plS1 (.inr bs)) = .inr (t, r2) := by rw [b1]; exact c2
      have b2 : plS2 (.inr bs) = .inr r2 := by unfold plS2; rw [a2]; rfl
      obtain ⟨t1, t2, t3⟩ := lst_back hb1 c2
      have hb2 := (lst_more hb1 c2).1
      cases c3 : lstP r2 with
      | inl e =>
        have a3 : lstPS (plS2 (.inr bs)) = .inl e := by rw [b2]; exact c3
        have : plS4 (.inr bs) = .inl e := by unfold plS4 plS3; rw [a3]; rfl
        rw [this] at h
        have := lstP_err hb2 c3
        exact absurd h (by show e ≠ 0; omega)
      | inr q3 =>
        obtain ⟨s, r3⟩ := q3
        have a3 : lstPS (plS2 (.inr bs)) = .inr (s, r3) := by rw [b2]; exact c3
        have b3 : plS3 (.inr bs) = .inr r3 := by unfold plS3; rw [a3]; rfl
        obtain ⟨s1, s2, s3⟩ := lstP_back hb2 c3
        have hb3 := (lstP_more hb2 c3).1
        cases c4 : lstP r3 with
        | inl e =>
          have a4 : lstPS (plS3 (.inr bs)) = .inl e := by rw [b3]; exact c4
          have : plS4 (.inr bs) = .inl e := by unfold plS4; rw [a4]; rfl
          rw [this] at h
          have := lstP_err hb3 c4
          exact absurd h (by show e ≠ 0; omega)
        | inr q4 =>
          obtain ⟨b, r4⟩ := q4
          have a4 : lstPS (plS3 (.inr bs)) = .inr (b, r4) := by rw [b3]; exact c4
          have b4 : plS4 (.inr bs) = .inr r4 := by unfold plS4; rw [a4]; rfl
          obtain ⟨d1, d2, d3⟩ := lstP_back hb3 c4
          have hr4 : r4 = [] := by
            rw [b4] at h
            by_cases e : r4 = []
            · exact e
            · have h' : (if r4 = [] then (0 : Int) else 12) = 0 := h
              rw [if_neg e] at h'
              cases h'
          subst hr4
          refine ⟨f, t, s, b, ⟨_, a1⟩, ⟨_, a2⟩, ⟨_, a3⟩, ⟨_, a4⟩, f1, t1, s1, d1, ?_⟩
          unfold plE
          rw [← d3, ← s3, ← t3, ← f3]
/-- Pairs of ints that the call itself made. -/
def zcells : List (Int × Int) → List Value
  | [] => []
  | e :: r => .int .i64 e.1 :: .int .i64 e.2 :: zcells r
theorem zcells_len (l : List (Int × Int)) : (zcells l).length = l.length * 2 := by
  induction l with
  | nil => rfl
  | cons e r ih => simp [zcells, ih]; omega
theorem zcells_append (l r : List (Int × Int)) : zcells (l ++ r) = zcells l ++ zcells r := by
  induction l with
  | nil => rfl
  | cons e l ih => simp [zcells, ih]
theorem zcells_casts (l : List (Nat × Nat)) : zcells (casts2 l) = pcells l := by
  induction l with
  | nil => rfl
  | cons e r ih =>
    show Value.int .i64 (e.1 : Int) :: .int .i64 (e.2 : Int) :: zcells (casts2 r) = _
    rw [ih]; rfl
theorem zcells_get : ∀ (l : List (Int × Int)) (j : Nat), j < l.length → (zcells l)[j * 2]? = some (.int .i64 (px l j)) ∧ (zcells l)[j * 2 + 1]? = some (.int .i64 (py l j))
  | [], j, h => by simp at h
  | x :: r, 0, h => by simp [zcells, px, py]
  | x :: r, j + 1, h => by
    have := zcells_get r j (by simpa using h)
    rw [show (j + 1) * 2 = j * 2 + 2 by omega]
    simpa [zcells, px, py] using this
def OwnZ (E : TypeId) (w : World) (base : Nat) (v : Value) (l : List (Int × Int)) : Prop := w.ownsRow base E 2 v l.length (zcells l)
theorem OwnP.z {E : TypeId} {w : World} {base : Nat} {v : Value} {l : List (Nat × Nat)} (h : OwnP E w base v l) : OwnZ E w base v (casts2 l) := by
  unfold OwnZ
  rw [zcells_casts, casts2_len]; exact h
theorem OwnZ.rd {E : TypeId} {w : World} {base n c : Nat} {A : Option Addr} {l : List (Int × Int)} (h : OwnZ E w base (.slice A n c) l) : n = l.length ∧ RdP w w.heap.size A l.length l := by
  have hn : n = l.length := by
    rcases h.2 with ⟨e, e0⟩ | ⟨g, cap, cur, e, _⟩
    · injection e with e1 e2 e3; omega
    · injection e with e1 e2 e3
  subst hn
  refine ⟨rfl, rfl, fun hl => ?_⟩
  obtain ⟨g, cap, hv, _, hlt⟩ := World.ownsRow.form h hl
  injection hv with h1 h2 h3
  subst h1
  refine ⟨g, 0, rfl, hlt, fun j hj => ?_⟩
  obtain ⟨c0, c1⟩ := zcells_get l j hj
  have k0 := World.ownsRow.cells h (g := g) rfl _ _ c0
  have k1 := World.ownsRow.cells h (g := g) rfl _ _ c1
  have ha : ∀ k, (Addr.add ⟨g, 0, none⟩ k) = ⟨g, 0 + k, none⟩ := fun k => by
    unfold Addr.add
    by_cases h0 : k = 0 <;> simp [h0]
  rw [ha] at k0 k1
  exact ⟨k0, by rw [Nat.add_assoc]; exact k1⟩
theorem OwnZ.nil_ (E : TypeId) (w : World) (base : Nat) : OwnZ E w base (.slice none 0 0) [] := World.ownsRow_nil _ _ _ _
theorem OwnZ.ge {E : TypeId} {w : World} {base : Nat} {v : Value} {l : List (Int × Int)} (h : OwnZ E w base v l) : ∀ g, v.ownBlock = some g → base ≤ g := by
  intro g hg
  rcases h.2 with ⟨rfl, _⟩ | ⟨g', cap, cur, rfl, hb, _⟩
  · cases hg
  · have : g' = g := by simpa [Value.ownBlock] using hg
    omega
theorem OwnZ.alloc {E : TypeId} {w : World} {base : Nat} {v : Value} {l : List (Int × Int)} (h : OwnZ E w base v l) (o : Obj) : OwnZ E (w.alloc o) base v l := World.ownsRow.alloc h o
theorem OwnZ.ff {E : TypeId} {w w' : World} {base : Nat} {v : Value} {l : List (Int × Int)} (h : OwnZ E w base v l) {row : Option Nat} (hg : w.grownBy w' row) (hr : ∀ g, row = some g → g < base) : OwnZ E w' base v l :=
  World.ownsRow.kept h hg (by
    cases hv : v.ownBlock with
    | none => exact .inl rfl
    | some g => right; intro e; have := h.ge g hv; have := hr g e.symm; omega)
theorem infoPairW : (Try.prog.info? 76).map (fun i => (i.zero, i.size, i.bytes)) = some (some (.agg #[.int .i64 0, .int .i64 0]), 2, 16) := by kernel_rfl
/-- 'append(s, x)': one pair of ints more. -/
theorem wpl_appZ {w : World} {ops : Array Oper} {rest : List Oper} {o : Oper} {a : Act} {Q : Exit → Act → World → Prop} (hgd : o.guard = none) (s x : Operand)
    (ho : o.op = .call { callee := .builtin .append, args := #[s, x], argTypes := #[45, 45] })
    (base : Nat) (v : Value) (l : List (Int × Int)) (hs : a.eval s = v) (hown : OwnZ 76 w base v l)
    (b : Nat) (p q : Int) (hx : a.eval x = .slice (some ⟨b, 0, none⟩) 1 1) (hc0 : w.cell? ⟨b, 0, none⟩ = some (.int .i64 p)) (hc1 : w.cell? ⟨b, 1, none⟩ = some (.int .i64 q)) (hn : l.length ≤ 1000000000) (hbase : base ≤ w.heap.size)
    (h : ∀ g c w', OwnZ 76 w' base (.slice (some ⟨g, 0, none⟩) (l.length + 1) c) (l ++ [(p, q)]) → w.grownBy w' v.ownBlock → wpList Try.prog ops Q rest (a.put o.dst (.slice (some ⟨g, 0, none⟩) (l.length + 1) c)) w') :
    wpList Try.prog ops Q (o :: rest) a w := by
  obtain ⟨i0, hi, hz0, hz1, hz2⟩ := info_parts infoPairW
  refine wpList_append_own_at w hgd s x 45 ho base 76 i0 (.agg #[.int .i64 0, .int .i64 0]) 2 16 Try.underlying45 hi hz0 hz1 hz2 rfl (by decide) v l.length _ hs hown ⟨b, 0, none⟩ 1 1 [.int .i64 p, .int .i64 q] hx rfl ?_ ?_ (by unfold maxLen; omega) (by omega) hbase ?_
  · intro j z hj
    match j, hj with
    | 0, hj => simp at hj; subst hj; simpa [Addr.add] using hc0
    | 1, hj => simp at hj; subst hj; simpa [Addr.add] using hc1
  · intro z hz
    simp at hz
    rcases hz with rfl | rfl <;> rfl
  · intro v' w' hown' hg _ hat
    have ho' : w'.ownsRow base 76 2 v' (l ++ [(p, q)]).length (zcells (l ++ [(p, q)])) := by
      rw [zcells_append, List.length_append]; exact hown'
    obtain ⟨g, c, hv, _, _⟩ := World.ownsRow.form ho' (by simp)
    rw [List.length_append] at hv
    have hv' : v' = .slice (some ⟨g, 0, none⟩) (l.length + 1) c := hv
    subst hv'
    exact h g c w' ho' hg
end
section
open Go.RowKit
open ByteP CodeP
set_option linter.unusedVariables false
set_option maxRecDepth 10000
set_option maxHeartbeats 2000000 in
theorem endRQ_any {w : World} {rb B p : Nat} {bs : List Int} {e : Int} (h : Rfr w rb B bs p e) (hl : bs.length ≤ 1000000000) :
    Calls Try.prog 35 #[.pointer (some ⟨rb, 0, none⟩)] w fun en w' => en = .returned (.int .i64 (endE e (bs.drop p))) ∧ w.grownBy w' (some rb) ∧ Rfr w' rb B bs p (endE e (bs.drop p)) := by
  obtain ⟨A, c, hrow, _⟩ := h.row
  obtain ⟨hc0, hc1, hc2, _, _⟩ := row3E hrow
  have HFL := Lib.hid (fun d => failR_any (h.drewN d) 12)
  have hle := h.le
  have HRF0 := Lib.hid (fun d => h.drewN d)
  clear h hrow
  by_cases hp : p < bs.length
  · have hz : decide (p < bs.length) = true := decide_eq_true hp
    have hz2 : decide ((p : Int) < (bs.length : Int)) = true := by simp; omega
    have HE : Hid (endE e (bs.drop p) = if e = 0 then 12 else e) := Lib.hid (by
      by_cases he : e = 0
      · subst he
        rw [endE_zero (by intro h; have := congrArg List.length h; simp at this; omega), if_pos rfl]
      · rw [endE_err he, if_neg he])
    rw [HE.out]
    clear HE hp
    obtain ⟨e', HE'⟩ : ∃ e', Hid ((if e = 0 then 12 else e) = e') := ⟨_, Lib.hid rfl⟩
    rw [HE'.out]
    go_enter Try.func35, Try.ntmps35
    go_wp2_with fail
    go_quiet (fail)
    go_wp2_with fail
    refine (HFL.out _).mono ?_
    rintro en w2 ⟨rfl, h2, hg2⟩
    rw [HE'.out] at h2
    have HG : Hid (w.grownBy w2 (some rb)) := Lib.hid (grown_add (grown_drewN (World.grownBy.refl w _) _) hg2)
    obtain ⟨A', c', hrow', _⟩ := h2.row
    obtain ⟨hd0, hd1, hd2, _, _⟩ := row3E hrow'
    have H2 := Lib.hid h2
    clear h2 hg2 hrow'
    go_wp2
    go_ret
    exact ⟨rfl, HG.out, H2.out⟩
  · have hz : decide (p < bs.length) = false := decide_eq_false hp
    have hz2 : decide ((p : Int) < (bs.length : Int)) = false := by simp; omega
    rw [List.drop_eq_nil_of_le (by omega), endE_nil]
    clear hp
    go_enter Try.func35, Try.ntmps35
    go_wp2_with fail
    go_quiet (fail)
    go_wp2
    go_ret
    exact ⟨rfl, grown_drewN (World.grownBy.refl w _) _, HRF0.out _⟩
theorem endQ_any {w : World} {rb B : Nat} {bs : List Int} {s : Sum Int (List Int)} (h : StQ w rb B bs s) (hl : bs.length ≤ 1000000000) :
    Calls Try.prog 35 #[.pointer (some ⟨rb, 0, none⟩)] w fun en w' => en = .returned (.int .i64 (endS s)) ∧ w.grownBy w' (some rb) ∧ w'.cell? ⟨rb, 2, none⟩ = some (.int .i64 (endS s)) := by
  have key : ∃ p e, Rfr w rb B bs p e ∧ endE e (bs.drop p) = endS s := by
    cases s with
    | inl e =>
      obtain ⟨he, p, hp⟩ := h
      exact ⟨p, e, hp, endE_err (by omega) _⟩
    | inr r =>
      obtain ⟨p, hp, hr⟩ := h
      refine ⟨p, 0, hp, ?_⟩
      rw [hr]
      by_cases h0 : r = []
      · subst h0; rfl
      · rw [endE_zero h0]; exact (if_neg h0).symm
  obtain ⟨p, e, hp, he⟩ := key
  refine (endRQ_any hp hl).mono ?_
  rintro en w' ⟨rfl, hg, hf⟩
  rw [he] at hf ⊢
  obtain ⟨A, c, hrow, _⟩ := hf.row
  exact ⟨rfl, hg, (row3E hrow).2.2.1⟩
end
end Go.Proofs.Ytolgmoaoheflcaa
