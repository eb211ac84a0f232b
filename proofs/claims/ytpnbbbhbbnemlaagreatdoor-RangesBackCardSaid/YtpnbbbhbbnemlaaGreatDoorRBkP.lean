/-
  PURE: a right range's text, and that it is read as it.
-/
import Derived.Test.YtpnbbbhbbnemlaaGreatDoorRLawS
import Derived.Test.YtpnbbbhbbnemlaaGreatDoorSText
import Derived.Lib.Join
namespace Go.Proofs.YtpnbbbhbbnemlaaGreatDoor
open Go.RowKit
open SemP
set_option linter.unusedSimpArgs false
set_option linter.unusedVariables false
def textC (x : CV) : Str := sg x.op.toNat ++ (if x.op = 0 then [] else x.ver.text)
def textL (l : List CV) : Str := Lib.join (l.map textC) [32]
def textG (r : List (List CV)) : Str := Lib.join (r.map textL) sepL
theorem cright_cases {x : CV} (h : x.right = true) : x = zeroC ∨ (1 ≤ x.op ∧ x.op ≤ 7 ∧ x.ver.right = true) := by
  unfold CV.right at h
  split at h
  · rename_i h0
    left
    unfold verEq at h
    obtain ⟨h1, h2, h3, h4⟩ := of_decide_eq_true h
    obtain ⟨op, a, b, c, s⟩ := x
    simp only at h0 h1 h2 h3 h4
    subst h0 h1 h2 h3 h4
    rfl
  · right
    simp only [Bool.and_eq_true, decide_eq_true_eq] at h
    exact ⟨by omega, h.1.2, h.2⟩
theorem text_zero : textC zeroC = [42] := by decide
/-- Every byte of a right version's text. -/
theorem dec_bytes (u : Nat) : ∀ b ∈ Lib.decDigits u, 45 ≤ b.toNat ∧ b.toNat ≤ 122 := by
  intro b hb
  have h := List.all_eq_true.1 (decDigits_all u) b hb
  unfold dig at h
  simp only [Bool.and_eq_true, decide_eq_true_eq] at h
  omega
theorem mark_bytes {m : Str} (h : rightMark m = true) : ∀ b ∈ m, 45 ≤ b.toNat ∧ b.toNat ≤ 122 := by
  intro b hb
  unfold rightMark at h
  simp only [Bool.and_eq_true] at h
  have h2 := h.2
  split at h2
  · rename_i hd
    have h3 := List.all_eq_true.1 (allDig_all hd).2 b hb
    unfold dig at h3
    simp only [Bool.and_eq_true, decide_eq_true_eq] at h3
    omega
  · have h3 := List.all_eq_true.1 h2 b hb
    unfold dig low at h3
    simp only [Bool.and_eq_true, Bool.or_eq_true, decide_eq_true_eq] at h3
    omega
theorem pre_bytes {p : Str} (h : rightPre p = true) : ∀ b ∈ p, 45 ≤ b.toNat ∧ b.toNat ≤ 122 := by
  intro b hb
  by_cases h46 : b = 46
  · subst h46; decide
  · obtain ⟨m, hm, hbm⟩ := mem_pieces 46 b h46 p hb
    exact mark_bytes (rightPre_all h m hm) b hbm
theorem ver_bytes {v : Ver} (h : v.right = true) : ∀ b ∈ v.text, 45 ≤ b.toNat ∧ b.toNat ≤ 122 := by
  intro b hb
  unfold Ver.text at hb
  have hpre : ∀ b ∈ (if v.pre.isEmpty then ([] : Str) else 45 :: v.pre), 45 ≤ b.toNat ∧ b.toNat ≤ 122 := by
    intro b hb
    split at hb
    · cases hb
    · rename_i he
      unfold Ver.right at h
      simp only [Bool.and_eq_true, Bool.or_eq_true] at h
      rcases List.mem_cons.1 hb with rfl | hb
      · decide
      · exact pre_bytes (h.2.resolve_left he) b hb
  simp only [List.mem_append, List.mem_cons] at hb
  rcases hb with hb | rfl | hb | rfl | hb | hb
  · exact dec_bytes _ b hb
  · decide
  · exact dec_bytes _ b hb
  · decide
  · exact dec_bytes _ b hb
  · exact hpre b hb
theorem sg_bytes : ∀ i, i < 8 → ∀ b ∈ sg i, b ≠ 32 ∧ b ≠ 124 := by decide
theorem textC_bytes {x : CV} (h : x.right = true) : ∀ b ∈ textC x, b ≠ 32 ∧ b ≠ 124 := by
  intro b hb
  rcases cright_cases h with rfl | ⟨h1, h7, hv⟩
  · rw [text_zero] at hb
    rcases List.mem_cons.1 hb with rfl | hb
    · decide
    · cases hb
  · unfold textC at hb
    rw [if_neg (by omega)] at hb
    rcases List.mem_append.1 hb with hb | hb
    · exact sg_bytes _ (by omega) b hb
    · have := ver_bytes hv b hb
      constructor
      · rintro rfl; exact absurd this.1 (by decide)
      · rintro rfl; exact absurd this.2 (by decide)
theorem parse_textC {x : CV} (h : x.right = true) : parseC (textC x) = (x, true) := by
  rcases cright_cases h with rfl | ⟨h1, h7, hv⟩
  · rw [text_zero, comp_star]
  · have e : textC x = sg x.op.toNat ++ x.ver.text := by unfold textC; rw [if_neg (by omega)]
    have hp : Lib.hasPrefix (textC x) (sg x.op.toNat) = true := by
      rw [e]; unfold Lib.hasPrefix; rw [List.isPrefixOf_iff_prefix]; exact List.prefix_append _ _
    have hd : parseV ((textC x).drop (sg x.op.toNat).length) = some x.ver := by
      rw [e, List.drop_left]; exact parse_text _ hv
    rw [comp_hit (by omega) hp hd]
    obtain ⟨op, a, b, c, s⟩ := x
    have e1 : ((op.toNat : Nat) : Int) = op := by simp only at h1; omega
    simp only [CV.ver, e1]
theorem pieces_join {ps : List Str} (hn : ps ≠ []) (h : ∀ p ∈ ps, (32 : UInt8) ∉ p) : pieces 32 (Lib.join ps [32]) = ps := by
  cases ps with
  | nil => exact absurd rfl hn
  | cons p r =>
    clear hn
    induction r generalizing p with
    | nil => rw [Lib.join_one]; exact pieces_one _ _ (h p List.mem_cons_self)
    | cons q r ih =>
      have e : Lib.join (p :: q :: r) [32] = p ++ 32 :: Lib.join (q :: r) [32] := by
        rw [Lib.join_cons, Lib.join_cons]; simp [Lib.joinTail]
      rw [e, pieces_app _ _ _ (h p List.mem_cons_self), ih q (fun x hx => h x (List.mem_cons_of_mem _ hx))]
theorem rightL_parts {l : List CV} (h : rightL l = true) : (1 ≤ l.length ∧ l.length ≤ 8) ∧ ∀ x ∈ l, x.right = true := by
  unfold rightL at h
  simp only [Bool.and_eq_true, decide_eq_true_eq] at h
  exact ⟨h.1, List.all_eq_true.1 h.2⟩
theorem pieces_textL {l : List CV} (h : rightL l = true) : pieces 32 (textL l) = l.map textC := by
  obtain ⟨hl, hx⟩ := rightL_parts h
  refine pieces_join (by intro e; rw [List.map_eq_nil_iff] at e; rw [e] at hl; simp at hl) (fun p hp => ?_)
  obtain ⟨x, hxm, rfl⟩ := List.mem_map.1 hp
  exact fun hb => (textC_bytes (hx x hxm) 32 hb).1 rfl
theorem docL_text {l : List CV} (h : rightL l = true) : docL (textL l) = l ∧ okL (textL l) = true := by
  obtain ⟨hl, hx⟩ := rightL_parts h
  constructor
  · unfold docL
    rw [pieces_textL h, List.map_map]
    conv => rhs; rw [← List.map_id l]
    exact List.map_congr_left (fun x hxm => by show (parseC (textC x)).1 = x; rw [parse_textC (hx x hxm)])
  · unfold okL
    rw [pieces_textL h, List.all_map, List.all_eq_true]
    intro x hxm
    show (parseC (textC x)).2 = true
    rw [parse_textC (hx x hxm)]
theorem join_mem {ps : List Str} {sep : Str} {b : UInt8} (h : b ∈ Lib.join ps sep) : b ∈ sep ∨ ∃ p ∈ ps, b ∈ p := by
  cases ps with
  | nil => rw [Lib.join_nil] at h; cases h
  | cons p r =>
    rw [Lib.join_cons, List.mem_append] at h
    rcases h with h | h
    · exact Or.inr ⟨p, List.mem_cons_self, h⟩
    · unfold Lib.joinTail at h
      rw [List.mem_flatten] at h
      obtain ⟨q, hq, hb⟩ := h
      obtain ⟨y, hy, rfl⟩ := List.mem_map.1 hq
      rcases List.mem_append.1 hb with hb | hb
      · exact Or.inl hb
      · exact Or.inr ⟨y, List.mem_cons_of_mem _ hy, hb⟩
theorem textL_no {l : List CV} (h : rightL l = true) : (124 : UInt8) ∉ textL l := by
  intro hb
  obtain ⟨hl, hx⟩ := rightL_parts h
  rcases join_mem hb with hb | ⟨p, hp, hb⟩
  · exact absurd hb (by decide)
  · obtain ⟨x, hxm, rfl⟩ := List.mem_map.1 hp
    exact (textC_bytes (hx x hxm) 124 hb).2 rfl
theorem noOcc_bar {t u : Str} (h : (124 : UInt8) ∉ t) : Lib.NoOcc (t ++ sepL ++ u) sepL t.length := by
  intro j hj
  cases ho : Lib.occAt (t ++ sepL ++ u) sepL j with
  | false => rfl
  | true =>
    have h1 := Lib.occAt_second (c0 := 32) (c1 := 124) (t := [124, 32]) rfl ho
    by_cases hj1 : j + 1 < t.length
    · rw [List.append_assoc, List.getElem?_append_left hj1] at h1
      exact absurd (List.mem_of_getElem? h1) h
    · have e : j + 1 = t.length := by omega
      rw [e, List.append_assoc, List.getElem?_append_right (Nat.le_refl _), Nat.sub_self] at h1
      exact absurd h1 (by simp [sepL])
theorem index_bar {t u : Str} (h : (124 : UInt8) ∉ t) : Lib.index (t ++ sepL ++ u) sepL = (t.length : Nat) := by
  refine Lib.index_hit (noOcc_bar h) (by simp) ?_
  rw [occ_take, List.append_assoc, List.drop_left]
  simp [sepL]
theorem index_no {t : Str} (h : (124 : UInt8) ∉ t) : Lib.index t sepL = -1 := by
  refine Lib.index_past (i := t.length) (by decide) ?_ (by simp [sepL])
  intro j hj
  cases ho : Lib.occAt t sepL j with
  | false => rfl
  | true =>
    have h1 := Lib.occAt_second (c0 := 32) (c1 := 124) (t := [124, 32]) rfl ho
    exact absurd (List.mem_of_getElem? h1) h
theorem full_join {ps : List Str} (hn : ps ≠ []) (h : ∀ p ∈ ps, (124 : UInt8) ∉ p) : Full sepL (Lib.join ps sepL) ps := by
  cases ps with
  | nil => exact absurd rfl hn
  | cons p r =>
    clear hn
    induction r generalizing p with
    | nil => rw [Lib.join_one]; exact Full.last _ (index_no (h p List.mem_cons_self))
    | cons q r ih =>
      have e : Lib.join (p :: q :: r) sepL = p ++ sepL ++ Lib.join (q :: r) sepL := by
        rw [Lib.join_cons, Lib.join_cons]; simp [Lib.joinTail]
      have hf := ih q (fun x hx => h x (List.mem_cons_of_mem _ hx))
      have hi := index_bar (u := Lib.join (q :: r) sepL) (h p List.mem_cons_self)
      rw [e]
      have hm := Full.more (p ++ sepL ++ Lib.join (q :: r) sepL) p.length (q :: r) hi (by simp) (by rw [← List.length_append, List.drop_left]; exact hf)
      rw [List.append_assoc, List.take_left, ← List.append_assoc] at hm
      exact hm
theorem rightR_parts {r : List (List CV)} (h : rightR r = true) : (1 ≤ r.length ∧ r.length ≤ 8) ∧ ∀ l ∈ r, rightL l = true := by
  unfold rightR at h
  simp only [Bool.and_eq_true, decide_eq_true_eq] at h
  exact ⟨h.1, List.all_eq_true.1 h.2⟩
theorem full_textG {r : List (List CV)} (h : rightR r = true) : Full sepL (textG r) (r.map textL) := by
  obtain ⟨hl, hx⟩ := rightR_parts h
  refine full_join (by intro e; rw [List.map_eq_nil_iff] at e; rw [e] at hl; simp at hl) (fun p hp => ?_)
  obtain ⟨l, hlm, rfl⟩ := List.mem_map.1 hp
  exact textL_no (hx l hlm)
theorem docR_text {r : List (List CV)} (h : rightR r = true) : docR (r.map textL) = r ∧ okR (r.map textL) = true := by
  obtain ⟨hl, hx⟩ := rightR_parts h
  constructor
  · unfold docR
    rw [List.map_map]
    conv => rhs; rw [← List.map_id r]
    exact List.map_congr_left (fun l hlm => (docL_text (hx l hlm)).1)
  · unfold okR
    rw [List.all_map, List.all_eq_true]
    intro l hlm
    exact (docL_text (hx l hlm)).2
/-- THE ROUND TRIP. -/
theorem parse_textG {r : List (List CV)} (h : rightR r = true) : parseG (mk (textG r)) = some r := by
  rw [parse_same (by rw [bs_mk]; exact full_textG h), (docR_text h).1, (docR_text h).2, h]
  rfl
theorem dec_short {u : Nat} (h : u ≤ 999999) : (Lib.decDigits u).length ≤ 6 := dec_len u h
theorem textV_len {v : Ver} (h : v.right = true) : v.text.length ≤ 64 := by
  obtain ⟨a, b, c, p⟩ := v
  obtain ⟨⟨a0, a1⟩, ⟨b0, b1⟩, ⟨c0, c1⟩⟩ := right_parts h
  have hp := right_len h
  have h1 := dec_short (u := a.toNat) (by omega)
  have h2 := dec_short (u := b.toNat) (by omega)
  have h3 := dec_short (u := c.toNat) (by omega)
  have h4 : (if p.isEmpty then ([] : Str) else 45 :: p).length ≤ 44 := by split <;> simp <;> omega
  unfold Ver.text
  simp only [List.length_append, List.length_cons]
  omega
theorem sg_len : ∀ i, i < 8 → (sg i).length ≤ 2 := by decide
theorem textC_len {x : CV} (h : x.right = true) : (textC x).length ≤ 66 := by
  rcases cright_cases h with rfl | ⟨h1, h7, hv⟩
  · rw [text_zero]; decide
  · unfold textC
    rw [if_neg (by omega), List.length_append]
    have := sg_len x.op.toNat (by omega)
    have := textV_len hv
    omega
theorem join_le {ps : List Str} {sep : Str} {K : Nat} (h : ∀ p ∈ ps, p.length ≤ K) : (Lib.join ps sep).length ≤ ps.length * (K + sep.length) := by
  cases ps with
  | nil => rw [Lib.join_nil]; simp
  | cons p r =>
    induction r generalizing p with
    | nil => rw [Lib.join_one]; have := h p List.mem_cons_self; simp; omega
    | cons q r ih =>
      have e : Lib.join (p :: q :: r) sep = p ++ sep ++ Lib.join (q :: r) sep := by
        rw [Lib.join_cons, Lib.join_cons]; simp [Lib.joinTail]
      have h1 := ih q (fun x hx => h x (List.mem_cons_of_mem _ hx))
      have h2 := h p List.mem_cons_self
      rw [e]
      simp only [List.length_append, List.length_cons] at h1 ⊢
      rw [Nat.succ_mul (r.length + 1)]
      omega
theorem textL_len {l : List CV} (h : rightL l = true) : (textL l).length ≤ 536 := by
  obtain ⟨hl, hx⟩ := rightL_parts h
  have h1 : (textL l).length ≤ (l.map textC).length * (66 + 1) := join_le (sep := [32]) (fun p hp => by
    obtain ⟨x, hxm, rfl⟩ := List.mem_map.1 hp
    exact textC_len (hx x hxm))
  rw [List.length_map] at h1
  have h2 : l.length * (66 + 1) ≤ 8 * (66 + 1) := Nat.mul_le_mul_right _ hl.2
  omega
theorem textG_len {r : List (List CV)} (h : rightR r = true) : (textG r).length ≤ 4320 := by
  obtain ⟨hl, hx⟩ := rightR_parts h
  have h1 : (textG r).length ≤ (r.map textL).length * (536 + 4) := join_le (sep := sepL) (fun p hp => by
    obtain ⟨x, hxm, rfl⟩ := List.mem_map.1 hp
    exact textL_len (hx x hxm))
  rw [List.length_map] at h1
  have h2 : r.length * (536 + 4) ≤ 8 * (536 + 4) := Nat.mul_le_mul_right _ hl.2
  omega
end Go.Proofs.YtpnbbbhbbnemlaaGreatDoor
