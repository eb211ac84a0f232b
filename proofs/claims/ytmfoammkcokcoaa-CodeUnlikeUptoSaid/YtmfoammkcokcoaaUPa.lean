/-
  Lists that are written and read, whatever their things are: plain mathematics.
  Comparisons, ranges, requests in bytes: plain mathematics.
-/
import Derived.Test.YtmfoammkcokcoaaTRa
import Derived.Test.YtmfoammkcokcoaaTRqa
namespace Go.Proofs.Ytmfoammkcokcoaa
section
open Go.RowKit
open ByteP CodeP
set_option linter.unusedVariables false
set_option maxRecDepth 10000
/-- A reader of things: an error, or a thing and what is left. -/
abbrev Pr (α : Type) := List Int → Sum Int (α × List Int)
def rdL {α : Type} (p : Pr α) : Nat → List Int → Sum Int (List α × List Int)
  | 0, r => .inr ([], r)
  | n + 1, r => match p r with
    | .inl e => .inl e
    | .inr (x, r1) => match rdL p n r1 with
      | .inl e => .inl e
      | .inr (l, r2) => .inr (x :: l, r2)
def lsL {α : Type} (p : Pr α) (r : List Int) : Sum Int (List α × List Int) :=
  match cnt r with
  | .inl e => .inl e
  | .inr (n, r') => rdL p n r'
def upS {α : Type} (p : Pr α) : Sum Int (List Int) → Sum Int (α × List Int)
  | .inl e => .inl e
  | .inr r => p r
def contL {α : Type} (l : List α) (res : Sum Int (List α × List Int)) : Sum Int (List α × List Int) :=
  match res with
  | .inl e => .inl e
  | .inr (m, r) => .inr (l ++ m, r)
def pairP {α β : Type} (p : Pr α) (q : Pr β) (r : List Int) : Sum Int ((α × β) × List Int) :=
  match p r with
  | .inl e => .inl e
  | .inr (x, r1) => match q r1 with
    | .inl e => .inl e
    | .inr (y, r2) => .inr ((x, y), r2)
def mapP {α β : Type} (f : α → β) (p : Pr α) (r : List Int) : Sum Int (β × List Int) :=
  match p r with
  | .inl e => .inl e
  | .inr (x, r1) => .inr (f x, r1)
section
variable {α β : Type} {p : Pr α} {q : Pr β}
theorem contL_nil (res : Sum Int (List α × List Int)) : contL [] res = res := by cases res <;> rfl
theorem contL_contL (l : List α) (x : α) (res : Sum Int (List α × List Int)) : contL l (contL [x] res) = contL (l ++ [x]) res := by
  cases res with
  | inl e => rfl
  | inr p => simp [contL]
theorem rdL_step {n : Nat} {r r1 : List Int} {x : α} (h : p r = .inr (x, r1)) : rdL p (n + 1) r = contL [x] (rdL p n r1) := by
  rw [rdL, h]
  simp only
  cases rdL p n r1 <;> rfl
theorem rdL_err {n : Nat} {r : List Int} {e : Int} (h : p r = .inl e) : rdL p (n + 1) r = .inl e := by rw [rdL, h]
theorem pairP_ok {r r1 r2 : List Int} {x : α} {y : β} (h1 : p r = .inr (x, r1)) (h2 : q r1 = .inr (y, r2)) : pairP p q r = .inr ((x, y), r2) := by
  unfold pairP; rw [h1]; simp only; rw [h2]
theorem pairP_err1 {r : List Int} {e : Int} (h1 : p r = .inl e) : pairP p q r = .inl e := by
  unfold pairP; rw [h1]
theorem pairP_err2 {r r1 : List Int} {x : α} {e : Int} (h1 : p r = .inr (x, r1)) (h2 : q r1 = .inl e) : pairP p q r = .inl e := by
  unfold pairP; rw [h1]; simp only; rw [h2]
theorem pairP_parts {r r2 : List Int} {z : α × β} (h : pairP p q r = .inr (z, r2)) : ∃ r1, p r = .inr (z.1, r1) ∧ q r1 = .inr (z.2, r2) := by
  unfold pairP at h
  split at h
  · cases h
  · next x r1 hx =>
    split at h
    · cases h
    · next y r3 hy =>
      injection h with h
      injection h with h1 h2
      subst h1 h2
      exact ⟨r1, hx, hy⟩
/-- The state behind both is the state behind the second behind the first. -/
theorem upS_pair (s : Sum Int (List Int)) : restS (upS (pairP p q) s) = restS (upS q (restS (upS p s))) := by
  cases s with
  | inl e => rfl
  | inr r =>
    show restS (pairP p q r) = restS (upS q (restS (p r)))
    cases h1 : p r with
    | inl e => rw [pairP_err1 h1]; rfl
    | inr a =>
      obtain ⟨x, r1⟩ := a
      show _ = restS (q r1)
      cases h2 : q r1 with
      | inl e => rw [pairP_err2 h1 h2]; rfl
      | inr b => obtain ⟨y, r2⟩ := b; rw [pairP_ok h1 h2]; rfl
theorem upS_map {γ : Type} (f : α → γ) (s : Sum Int (List Int)) : restS (upS (mapP f p) s) = restS (upS p s) := by
  cases s with
  | inl e => rfl
  | inr r =>
    show restS (mapP f p r) = restS (p r)
    unfold mapP
    cases p r <;> rfl
theorem mapP_inr {γ : Type} {f : α → γ} {r r' : List Int} {y : γ} (h : mapP f p r = .inr (y, r')) : ∃ x, p r = .inr (x, r') ∧ y = f x := by
  unfold mapP at h
  cases hp : p r with
  | inl e => rw [hp] at h; cases h
  | inr a =>
    obtain ⟨x, r1⟩ := a
    rw [hp] at h
    simp only at h
    injection h with h
    injection h with h1 h2
    subst h1 h2
    exact ⟨x, rfl, rfl⟩
theorem mapP_inl {γ : Type} {f : α → γ} {r : List Int} {e : Int} (h : mapP f p r = .inl e) : p r = .inl e := by
  unfold mapP at h
  cases hp : p r with
  | inl e => rw [hp] at h; injection h with h; rw [h]
  | inr a => obtain ⟨x, r1⟩ := a; rw [hp] at h; cases h
theorem mapP_ok {γ : Type} {f : α → γ} {r r' : List Int} {x : α} (h : p r = .inr (x, r')) : mapP f p r = .inr (f x, r') := by
  unfold mapP; rw [h]
theorem mapP_err {γ : Type} {f : α → γ} {r : List Int} {e : Int} (h : p r = .inl e) : mapP f p r = .inl e := by
  unfold mapP; rw [h]
end
/-- All things of a list, one behind the other; and how many ahead. -/
def fl {α : Type} (e : α → List Int) (l : List α) : List Int := (l.map e).flatten
def lsE {α : Type} (e : α → List Int) (l : List α) : List Int := enc l.length ++ fl e l
theorem fl_cons {α : Type} (e : α → List Int) (x : α) (l : List α) : fl e (x :: l) = e x ++ fl e l := by simp [fl]
theorem fl_snoc {α : Type} (e : α → List Int) (l : List α) (x : α) : fl e (l ++ [x]) = fl e l ++ e x := by simp [fl]
theorem fl_append {α : Type} (e : α → List Int) (l m : List α) : fl e (l ++ m) = fl e l ++ fl e m := by simp [fl]
def okL {α : Type} (ok : α → Prop) (l : List α) : Prop := l.length ≤ 1099511627776 ∧ ∀ x ∈ l, ok x
/-- e writes what p reads; what is cut off lacks something. -/
structure Both {α : Type} (p : Pr α) (e : α → List Int) (ok : α → Prop) : Prop where
  pos : ∀ x, ok x → 1 ≤ (e x).length
  bytes : ∀ x, ok x → Bytes (e x)
  err : ∀ {r : List Int} {k : Int}, Bytes r → p r = .inl k → k = 12 ∨ k = 13
  enc : ∀ {x : α}, ok x → ∀ r, p (e x ++ r) = .inr (x, r)
  back : ∀ {r r' : List Int} {x : α}, Bytes r → p r = .inr (x, r') → ok x ∧ r = e x ++ r'
  cut : ∀ {x : α}, ok x → ∀ k, k < (e x).length → p ((e x).take k) = .inl 13
section
variable {α β : Type} {p : Pr α} {q : Pr β} {e : α → List Int} {f : β → List Int} {ok : α → Prop} {ok' : β → Prop}
theorem Both.more (h : Both p e ok) {r r' : List Int} {x : α} (hb : Bytes r) (hp : p r = .inr (x, r')) : Bytes r' ∧ r'.length ≤ r.length := by
  obtain ⟨_, h2⟩ := h.back hb hp
  subst h2
  exact ⟨bytes_right hb, by rw [List.length_append]; omega⟩
theorem Both.pair (h : Both p e ok) (k : Both q f ok') : Both (pairP p q) (fun z => e z.1 ++ f z.2) (fun z => ok z.1 ∧ ok' z.2) where
  pos z hz := by have := h.pos z.1 hz.1; simp only [List.length_append]; omega
  bytes z hz := bytes_append (h.bytes _ hz.1) (k.bytes _ hz.2)
  err {r c} hb hp := by
    unfold pairP at hp
    split at hp
    · next e1 h1 => injection hp with hp; subst hp; exact h.err hb h1
    · next x r1 h1 =>
      split at hp
      · next e1 h2 => injection hp with hp; subst hp; exact k.err (h.more hb h1).1 h2
      · cases hp
  enc {z} hz r := by
    obtain ⟨x, y⟩ := z
    simp only [List.append_assoc]
    exact pairP_ok (h.enc hz.1 _) (k.enc hz.2 _)
  back {r r' z} hb hp := by
    obtain ⟨r1, h1, h2⟩ := pairP_parts hp
    obtain ⟨a1, a2⟩ := h.back hb h1
    obtain ⟨b1, b2⟩ := k.back (h.more hb h1).1 h2
    exact ⟨⟨a1, b1⟩, by rw [List.append_assoc, ← b2]; exact a2⟩
  cut {z} hz c hc := by
    obtain ⟨x, y⟩ := z
    have hc : c < (e x).length + (f y).length := by simpa [List.length_append] using hc
    simp only [List.take_append]
    by_cases h1 : c < (e x).length
    · rw [show c - (e x).length = 0 by omega, List.take_zero, List.append_nil]
      exact pairP_err1 (h.cut hz.1 c h1)
    · rw [List.take_of_length_le (by omega)]
      exact pairP_err2 (h.enc hz.1 _) (k.cut (x := y) hz.2 _ (by omega))
theorem Both.map {γ : Type} (h : Both p e ok) (F : α → γ) (G : γ → α) (hG : ∀ x, ok x → G (F x) = x) : Both (mapP F p) (fun y => e (G y)) (fun y => ok (G y) ∧ F (G y) = y) where
  pos y hy := h.pos _ hy.1
  bytes y hy := h.bytes _ hy.1
  err hb hp := h.err hb (mapP_inl hp)
  enc {y} hy r := by rw [mapP_ok (h.enc hy.1 r), hy.2]
  back {r r' y} hb hp := by
    obtain ⟨x, h1, rfl⟩ := mapP_inr hp
    obtain ⟨a1, a2⟩ := h.back hb h1
    rw [hG x a1]
    exact ⟨⟨a1, rfl⟩, a2⟩
  cut {y} hy k hk := mapP_err (h.cut hy.1 k hk)
theorem fl_ge (h : Both p e ok) : ∀ {l : List α}, (∀ x ∈ l, ok x) → l.length ≤ (fl e l).length
  | [], _ => by simp [fl]
  | x :: l, hl => by
    rw [fl_cons, List.length_append, List.length_cons]
    have h1 := h.pos x (hl x (by simp))
    have h2 := fl_ge h (l := l) (fun y hy => hl y (by simp [hy]))
    omega
theorem fl_bytes (h : Both p e ok) : ∀ {l : List α}, (∀ x ∈ l, ok x) → Bytes (fl e l)
  | [], _ => bytes_nil
  | x :: l, hl => by
    rw [fl_cons]
    exact bytes_append (h.bytes x (hl x (by simp))) (fl_bytes h (fun y hy => hl y (by simp [hy])))
theorem rdL_fl (h : Both p e ok) : ∀ {l : List α} (r : List Int), (∀ x ∈ l, ok x) → rdL p l.length (fl e l ++ r) = .inr (l, r)
  | [], r, _ => by simp [rdL, fl]
  | x :: l, r, hl => by
    rw [fl_cons, List.append_assoc, List.length_cons, rdL_step (h.enc (hl x (by simp)) _), rdL_fl h r (fun y hy => hl y (by simp [hy]))]
    rfl
theorem rdL_back (h : Both p e ok) : ∀ (n : Nat) (r : List Int) (l : List α) (r' : List Int), Bytes r → rdL p n r = .inr (l, r') → l.length = n ∧ (∀ x ∈ l, ok x) ∧ r = fl e l ++ r'
  | 0, r, l, r', hb, hp => by
    simp [rdL] at hp
    obtain ⟨h1, h2⟩ := hp
    subst h1 h2
    exact ⟨rfl, (fun x hx => by simp at hx), by simp [fl]⟩
  | n + 1, r, l, r', hb, hp => by
    rw [rdL] at hp
    split at hp
    · cases hp
    · next x r1 hx =>
      obtain ⟨a1, a2⟩ := h.back hb hx
      have hb1 := (h.more hb hx).1
      split at hp
      · cases hp
      · next l2 r2 hy =>
        injection hp with hp
        injection hp with e1 e2
        subst e1 e2
        obtain ⟨c1, c2, c3⟩ := rdL_back h n r1 l2 r2 hb1 hy
        refine ⟨by simp [c1], fun y hy => ?_, ?_⟩
        · rcases List.mem_cons.1 hy with e | e
          · subst e; exact a1
          · exact c2 y e
        · rw [fl_cons, List.append_assoc, ← c3, ← a2]
theorem rdL_err2 (h : Both p e ok) : ∀ (n : Nat) (r : List Int) (k : Int), Bytes r → rdL p n r = .inl k → k = 12 ∨ k = 13
  | 0, r, k, hb, hp => by simp [rdL] at hp
  | n + 1, r, k, hb, hp => by
    rw [rdL] at hp
    split at hp
    · next e1 h1 => injection hp with hp; subst hp; exact h.err hb h1
    · next x r1 h1 =>
      split at hp
      · next e1 h2 => injection hp with hp; subst hp; exact rdL_err2 h n r1 _ (h.more hb h1).1 h2
      · cases hp
theorem rdL_cut (h : Both p e ok) : ∀ {l : List α} (k : Nat), (∀ x ∈ l, ok x) → k < (fl e l).length → rdL p l.length ((fl e l).take k) = .inl 13
  | [], k, _, hk => by simp [fl] at hk
  | x :: l, k, hl, hk => by
    rw [fl_cons, List.length_append] at hk
    rw [fl_cons, List.take_append, List.length_cons]
    by_cases h1 : k < (e x).length
    · rw [show k - (e x).length = 0 by omega, List.take_zero, List.append_nil]
      exact rdL_err (h.cut (hl x (by simp)) k h1)
    · rw [List.take_of_length_le (by omega), rdL_step (h.enc (hl x (by simp)) _), rdL_cut h _ (fun y hy => hl y (by simp [hy])) (by omega)]
      rfl
theorem enc_cut : ∀ (k i acc m : Nat), 0 < k → m < 128 ^ k → ∀ j, j < (enc m).length → rd1 k i acc ((enc m).take j) = .inl 13
  | 0, i, acc, m, hk, hm, j, hj => absurd hk (by omega)
  | k + 1, i, acc, m, hk, hm, j, hj => by
    cases j with
    | zero => simp [rd1]
    | succ j =>
      by_cases h : m < 128
      · rw [enc_lt h] at hj; simp at hj
      · rw [enc_ge (by omega)] at hj ⊢
        simp only [List.length_cons] at hj
        rw [List.take_succ_cons]
        unfold rd1
        rw [if_pos (by omega)]
        have hk : 0 < k := by
          rcases Nat.eq_zero_or_pos k with h0 | h0
          · subst h0; simp at hm; omega
          · exact h0
        exact enc_cut k (i + 1) _ (m / 128) hk (by rw [Nat.pow_succ] at hm; omega) j (by omega)
theorem num_cut {m : Nat} (hm : m ≤ 1099511627776) {j : Nat} (hj : j < (enc m).length) : num ((enc m).take j) = .inl 13 := enc_cut 6 0 0 m (by omega) (by omega) j hj
theorem num_both : Both num enc (fun n => n ≤ 1099511627776) where
  pos n _ := enc_pos n
  bytes n _ := enc_bytes n
  err _ h := num_err h
  enc h r := num_enc h r
  back hb h := num_back hb h
  cut h k hk := num_cut h hk
theorem Both.list (h : Both p e ok) : Both (lsL p) (lsE e) (okL ok) where
  pos l _ := by unfold lsE; have := enc_pos l.length; rw [List.length_append]; omega
  bytes l hl := bytes_append (enc_bytes _) (fl_bytes h hl.2)
  err {r k} hb hp := by
    unfold lsL at hp
    split at hp
    · next e1 h1 => injection hp with hp; subst hp; exact cnt_err h1
    · next n r1 h1 => exact rdL_err2 h n r1 k (num_bytes hb (cnt_ok h1).1) hp
  enc {l} hl r := by
    unfold lsL lsE
    rw [List.append_assoc, cnt_enc hl.1 (by rw [List.length_append]; have := fl_ge h hl.2; omega)]
    exact rdL_fl h r hl.2
  back {r r' l} hb hp := by
    unfold lsL at hp
    split at hp
    · cases hp
    · next n r1 hc =>
      obtain ⟨hn, _⟩ := cnt_ok hc
      have b1 := num_back hb hn
      obtain ⟨c1, c2, c3⟩ := rdL_back h n r1 l r' (num_bytes hb hn) hp
      refine ⟨⟨by rw [c1]; exact b1.1, c2⟩, ?_⟩
      unfold lsE
      rw [c1, b1.2, c3, List.append_assoc]
  cut {l} hl k hk := by
    unfold lsE at hk ⊢
    rw [List.length_append] at hk
    rw [List.take_append]
    unfold lsL cnt
    by_cases h1 : k < (CodeP.enc l.length).length
    · rw [show k - (CodeP.enc l.length).length = 0 by omega, List.take_zero, List.append_nil, num_cut hl.1 h1]
    · rw [List.take_of_length_le (by omega), num_enc hl.1]
      simp only
      by_cases h2 : ((fl e l).take (k - (CodeP.enc l.length).length)).length < l.length
      · rw [if_pos h2]
      · rw [if_neg h2]
        exact rdL_cut h _ hl.2 (by omega)
end
/-- A text's bytes. -/
theorem txt_both : Both txt (fun s => enc s.length ++ s) (fun s => s.length ≤ 1099511627776 ∧ Bytes s) where
  pos s _ := by rw [List.length_append]; have := enc_pos s.length; omega
  bytes s h := bytes_append (enc_bytes _) h.2
  err {r k} hb hp := by
    unfold txt at hp
    split at hp
    · next e1 h1 => injection hp with hp; subst hp; exact cnt_err h1
    · cases hp
  enc {s} h r := by
    unfold txt
    rw [List.append_assoc, cnt_enc h.1 (by rw [List.length_append]; omega)]
    simp
  back {r r' s} hb hp := by
    unfold txt at hp
    split at hp
    · cases hp
    · next n r1 hc =>
      obtain ⟨hn, hl⟩ := cnt_ok hc
      have b1 := num_back hb hn
      have hb1 := num_bytes hb hn
      injection hp with hp
      injection hp with e1 e2
      subst e1 e2
      have hlen : (r1.take n).length = n := by rw [List.length_take]; omega
      refine ⟨⟨by rw [hlen]; exact b1.1, ?_⟩, ?_⟩
      · have h : Bytes (r1.take n ++ r1.drop n) := by rw [List.take_append_drop]; exact hb1
        exact fun i => by
          by_cases hi : i < (r1.take n).length
          · have := h i
            rwa [ix_append_lt hi] at this
          · have : ix (r1.take n) i = 0 := by unfold ix; simp only [List.getD]; rw [List.getElem?_eq_none (by omega)]; rfl
            omega
      · rw [hlen, List.append_assoc, List.take_append_drop]; exact b1.2
  cut {s} h k hk := by
    rw [List.length_append] at hk
    rw [List.take_append]
    unfold txt cnt
    by_cases h1 : k < (CodeP.enc s.length).length
    · rw [show k - (CodeP.enc s.length).length = 0 by omega, List.take_zero, List.append_nil, num_cut h.1 h1]
    · rw [List.take_of_length_le (by omega), num_enc h.1]
      simp only
      rw [if_pos (by rw [List.length_take]; omega)]
end
section
open Go.RowKit
open ByteP CodeP
set_option linter.unusedVariables false
set_option maxRecDepth 10000
theorem bs_str {x : List Int} (h : Bytes x) : bsS (strOfNums x) = x := by
  have key : ∀ l : List Int, Bytes l → (l.map (fun n => UInt8.ofNat n.toNat)).map (fun b : UInt8 => (b.toNat : Int)) = l := by
    intro l
    induction l with
    | nil => intro _; rfl
    | cons b l ih =>
      intro hb
      have h0 := hb 0
      have e0 : ix (b :: l) 0 = b := rfl
      rw [e0] at h0
      have h1 : Bytes l := fun i => hb (i + 1)
      rw [List.map_cons, List.map_cons, ih h1]
      congr 1
      have : b.toNat < 256 := by omega
      simp only [UInt8.toNat_ofNat']
      omega
  unfold bsS strOfNums
  simpa using key x h
theorem str_bs (s : ByteArray) : strOfNums (bsS s) = s := by
  have h := bs_str (bsS_bytes s)
  unfold bsS at h
  have inj : ∀ a b : List UInt8, a.map (fun b : UInt8 => (b.toNat : Int)) = b.map (fun b : UInt8 => (b.toNat : Int)) → a = b := by
    intro a
    induction a with
    | nil => intro b hb; cases b with
      | nil => rfl
      | cons y b => simp at hb
    | cons x a ih =>
      intro b hb
      cases b with
      | nil => simp at hb
      | cons y b =>
        rw [List.map_cons, List.map_cons] at hb
        injection hb with h1 h2
        rw [ih b h2, UInt8.toNat_inj.1 (by omega : x.toNat = y.toNat)]
  have h2 := inj _ _ h
  have h3 : (strOfNums (bsS s)).data = s.data := Array.toList_inj.1 h2
  generalize strOfNums (bsS s) = q at h3
  cases q; cases s
  simp only at h3
  rw [h3]
theorem str_len (x : List Int) : (strOfNums x).size = x.length := by
  unfold strOfNums
  show (Array.size _) = _
  simp
/-- A version's four parts. -/
def ver4 : Pr (Nat × Nat × Nat × List Int) := pairP num (pairP num (pairP num txt))
theorem verV_eq (r : List Int) : verV r = ver4 r := by
  unfold verV ver4 pairP
  cases num r with
  | inl e => rfl
  | inr p =>
    obtain ⟨a, r1⟩ := p
    simp only
    cases num r1 with
    | inl e => rfl
    | inr p =>
      obtain ⟨b, r2⟩ := p
      simp only
      cases num r2 with
      | inl e => rfl
      | inr p =>
        obtain ⟨c, r3⟩ := p
        simp only
        cases txt r3 with
        | inl e => rfl
        | inr p => obtain ⟨t, r4⟩ := p; rfl
def verE (v : Nat × Nat × Nat × List Int) : List Int := enc v.1 ++ (enc v.2.1 ++ (enc v.2.2.1 ++ (enc v.2.2.2.length ++ v.2.2.2)))
def okV (v : Nat × Nat × Nat × List Int) : Prop := v.1 ≤ 1099511627776 ∧ v.2.1 ≤ 1099511627776 ∧ v.2.2.1 ≤ 1099511627776 ∧ v.2.2.2.length ≤ 1099511627776 ∧ Bytes v.2.2.2
theorem ver_both : Both verV verE okV := by
  have e : verV = ver4 := funext verV_eq
  rw [e]
  exact num_both.pair (num_both.pair (num_both.pair txt_both))
theorem verO_nat {a b c : Nat} {s : ByteArray} (ha : a ≤ 1099511627776) (hb : b ≤ 1099511627776) (hc : c ≤ 1099511627776) : verO (a : Int) (b : Int) (c : Int) s = verE (a, b, c, bsS s) := by
  unfold verO verE
  rw [outI_nat ha, outI_nat hb, outI_nat hc, bsS_len]
def okC (x : CV) : Prop := compB x = false ∧ x.s.size ≤ 1099511627776
/-- A comparison that has a form: a nought, or a sign and a version. -/
theorem okC_cases {x : CV} (h : okC x) : (x = ⟨0, 0, 0, 0, ⟨#[]⟩⟩) ∨ ∃ n a b c s, x = ⟨((n + 1 : Nat) : Int), (a : Nat), (b : Nat), (c : Nat), s⟩ ∧ n + 1 ≤ 1099511627776 ∧ okV (a, b, c, bsS s) := by
  obtain ⟨op, a, b, c, s⟩ := x
  obtain ⟨h, hs⟩ := h
  unfold compB at h
  simp only [Bool.or_eq_false_iff, Bool.not_eq_false'] at h hs
  obtain ⟨h1, h2⟩ := h
  by_cases h0 : op = 0
  · left
    rw [if_pos h0] at h2
    simp only [Bool.not_eq_false'] at h2
    obtain ⟨e1, e2, e3, e4⟩ := of_decide_eq_true h2
    rw [h0, e1, e2, e3, e4]
  · right
    rw [if_neg h0] at h2
    unfold verB at h2
    simp only [Bool.or_eq_false_iff, Bool.not_eq_false'] at h2
    obtain ⟨h3, h4, h5⟩ := h2
    obtain ⟨k, rfl, hk⟩ := okI_of h1
    obtain ⟨x, rfl, hx⟩ := okI_of h3
    obtain ⟨y, rfl, hy⟩ := okI_of h4
    obtain ⟨z, rfl, hz⟩ := okI_of h5
    refine ⟨k - 1, x, y, z, s, ?_, by omega, hx, hy, hz, by rw [bsS_len]; exact hs, bsS_bytes s⟩
    have : k - 1 + 1 = k := by omega
    rw [this]
theorem okC_zero : okC ⟨0, 0, 0, 0, ⟨#[]⟩⟩ := ⟨by decide, by decide⟩
theorem okC_of {n a b c : Nat} {s : ByteArray} (hn : n + 1 ≤ 1099511627776) (h : okV (a, b, c, bsS s)) : okC ⟨((n + 1 : Nat) : Int), (a : Nat), (b : Nat), (c : Nat), s⟩ := by
  obtain ⟨h1, h2, h3, h4, _⟩ := h
  simp only at h1 h2 h3 h4
  rw [bsS_len] at h4
  refine ⟨?_, h4⟩
  unfold compB verB
  simp only
  rw [okI_nat hn, okI_nat h1, okI_nat h2, okI_nat h3, if_neg (by omega)]
  rfl
theorem compO_of {n a b c : Nat} {s : ByteArray} (hn : n + 1 ≤ 1099511627776) (h : okV (a, b, c, bsS s)) : compO ⟨((n + 1 : Nat) : Int), (a : Nat), (b : Nat), (c : Nat), s⟩ = enc (n + 1) ++ verE (a, b, c, bsS s) := by
  unfold compO
  simp only
  rw [outI_nat hn, if_neg (by omega), verO_nat h.1 h.2.1 h.2.2.1]
theorem compO_zero : compO ⟨0, 0, 0, 0, ⟨#[]⟩⟩ = enc 0 := by
  unfold compO
  simp only
  rw [if_pos trivial, List.append_nil]
  exact outI_nat (n := 0) (by omega)
theorem compV_zero {r r1 : List Int} (h : num r = .inr (0, r1)) : compV r = .inr (⟨0, 0, 0, 0, ⟨#[]⟩⟩, r1) := by
  unfold compV; rw [h]; simp
theorem compV_ver {n a b c : Nat} {t r r1 r2 : List Int} (h : num r = .inr (n + 1, r1)) (h2 : verV r1 = .inr ((a, b, c, t), r2)) : compV r = .inr (⟨((n + 1 : Nat) : Int), (a : Nat), (b : Nat), (c : Nat), strOfNums t⟩, r2) := by
  unfold compV; rw [h]; simp only; rw [if_neg (by omega), h2]
theorem compV_err {r : List Int} {e : Int} (h : num r = .inl e) : compV r = .inl e := by
  unfold compV; rw [h]
theorem compV_err2 {n : Nat} {r r1 : List Int} {e : Int} (h : num r = .inr (n + 1, r1)) (h2 : verV r1 = .inl e) : compV r = .inl e := by
  unfold compV; rw [h]; simp only; rw [if_neg (by omega), h2]
theorem comp_both : Both compV compO okC where
  pos x hx := by
    rcases okC_cases hx with rfl | ⟨n, a, b, c, s, rfl, hn, hv⟩
    · rw [compO_zero]; exact enc_pos 0
    · rw [compO_of hn hv, List.length_append]; have := enc_pos (n + 1); omega
  bytes x hx := by
    rcases okC_cases hx with rfl | ⟨n, a, b, c, s, rfl, hn, hv⟩
    · rw [compO_zero]; exact enc_bytes 0
    · rw [compO_of hn hv]; exact bytes_append (enc_bytes _) (ver_both.bytes _ hv)
  err {r k} hb h := by
    cases hn : num r with
    | inl e => rw [compV_err hn] at h; injection h with h; subst h; exact num_err hn
    | inr p =>
      obtain ⟨n, r1⟩ := p
      cases n with
      | zero => rw [compV_zero hn] at h; cases h
      | succ n =>
        cases hv : verV r1 with
        | inl e => rw [compV_err2 hn hv] at h; injection h with h; subst h; exact ver_both.err (num_bytes hb hn) hv
        | inr q => obtain ⟨⟨a, b, c, t⟩, r2⟩ := q; rw [compV_ver hn hv] at h; cases h
  enc {x} hx r := by
    rcases okC_cases hx with rfl | ⟨n, a, b, c, s, rfl, hn, hv⟩
    · rw [compO_zero]; exact compV_zero (num_enc (by omega) r)
    · rw [compO_of hn hv, List.append_assoc, compV_ver (num_enc hn _) (ver_both.enc hv r), str_bs]
  back {r r' x} hb h := by
    cases hn : num r with
    | inl e => rw [compV_err hn] at h; cases h
    | inr p =>
      obtain ⟨n, r1⟩ := p
      obtain ⟨b1, b2⟩ := num_back hb hn
      cases n with
      | zero =>
        rw [compV_zero hn] at h
        injection h with h
        injection h with h1 h2
        subst h1 h2
        exact ⟨okC_zero, by rw [compO_zero]; exact b2⟩
      | succ n =>
        cases hv : verV r1 with
        | inl e => rw [compV_err2 hn hv] at h; cases h
        | inr q =>
          obtain ⟨⟨a, b, c, t⟩, r2⟩ := q
          rw [compV_ver hn hv] at h
          injection h with h
          injection h with h1 h2
          subst h1 h2
          obtain ⟨c1, c2⟩ := ver_both.back (num_bytes hb hn) hv
          have c3 : bsS (strOfNums t) = t := bs_str c1.2.2.2.2
          have c4 : okV (a, b, c, bsS (strOfNums t)) := by rw [c3]; exact c1
          refine ⟨okC_of b1 c4, ?_⟩
          rw [compO_of b1 c4, c3, List.append_assoc, ← c2]; exact b2
  cut {x} hx k hk := by
    rcases okC_cases hx with rfl | ⟨n, a, b, c, s, rfl, hn, hv⟩
    · rw [compO_zero] at hk ⊢; exact compV_err (num_cut (by omega) hk)
    · rw [compO_of hn hv] at hk ⊢
      rw [List.length_append] at hk
      rw [List.take_append]
      by_cases h1 : k < (enc (n + 1)).length
      · rw [show k - (enc (n + 1)).length = 0 by omega, List.take_zero, List.append_nil]
        exact compV_err (num_cut hn h1)
      · rw [List.take_of_length_le (by omega)]
        exact compV_err2 (num_enc hn _) (ver_both.cut hv _ (by omega))
/-- Numbers as ints. -/
def numI : Pr Int := mapP (fun n : Nat => (n : Int)) num
theorem numI_both : Both numI outI (fun n => okI n = true) where
  pos n hn := by obtain ⟨k, rfl, hk⟩ := okI_of hn; rw [outI_nat hk]; exact enc_pos k
  bytes n hn := by obtain ⟨k, rfl, hk⟩ := okI_of hn; rw [outI_nat hk]; exact enc_bytes k
  err _ h := num_err (mapP_inl h)
  enc {n} hn r := by obtain ⟨k, rfl, hk⟩ := okI_of hn; rw [outI_nat hk]; exact mapP_ok (num_enc hk r)
  back {r r' n} hb h := by
    obtain ⟨k, h1, rfl⟩ := mapP_inr h
    obtain ⟨c1, c2⟩ := num_back hb h1
    exact ⟨okI_nat c1, by rw [outI_nat c1]; exact c2⟩
  cut {n} hn k hk := by obtain ⟨m, rfl, hm⟩ := okI_of hn; rw [outI_nat hm] at hk ⊢; exact mapP_err (num_cut hm hk)
def rngP : Pr (List (List CV)) := lsL (lsL compV)
def okR (r : List (List CV)) : Prop := okL (okL okC) r
theorem lisO_eq : lisO = lsE compO := rfl
theorem rngO_eq : rngO = lsE (lsE compO) := rfl
theorem rng_both : Both rngP rngO okR := comp_both.list.list
def pinP : Pr (Int × List (List CV)) := pairP numI rngP
def okPin (p : Int × List (List CV)) : Prop := okI p.1 = true ∧ okR p.2
theorem pin_both : Both pinP pinO okPin := numI_both.pair rng_both
def intsP : Pr (List Int) := lsL numI
def rqP : Pr (List (Int × List (List CV)) × List Int) := pairP (lsL pinP) intsP
def okRq (q : List (Int × List (List CV)) × List Int) : Prop := okL okPin q.1 ∧ okL (fun n => okI n = true) q.2
theorem rq_both : Both rqP (fun q => lsE pinO q.1 ++ lsE outI q.2) okRq := pin_both.list.pair numI_both.list
theorem rqO_eq (l : List (Int × List (List CV))) (ms : List Int) : rqO l ms = lsE pinO l ++ lsE outI ms := by
  unfold rqO lsE outN outs fl
  simp only [List.append_assoc]
theorem badC_ok {l : List CV} (h : badC l = false) (hs : ∀ x ∈ l, x.s.size ≤ 1099511627776) : ∀ x ∈ l, okC x := fun x hx => ⟨by
  have := (List.any_eq_false.1 h) x hx
  simpa using this, hs x hx⟩
theorem shC_ok {l : List CV} (h : badC l = false) (hs : ShC l) : okL okC l := ⟨by have := hs.1; omega, badC_ok h (fun x hx => by have := hs.2 x hx; omega)⟩
theorem shL_ok {r : List (List CV)} (h : badL r = false) (hs : ShL r) : okR r := ⟨by have := hs.1; omega, fun l hl => shC_ok (by
  have := (List.any_eq_false.1 h) l hl
  simpa using this) (hs.2 l hl)⟩
theorem shN_ok {l : List (Int × List (List CV))} (h : badN l = false) (hs : ShN l) : okL okPin l := ⟨by have := hs.1; omega, fun p hp => by
  have h1 := (List.any_eq_false.1 h) p hp
  unfold pinB at h1
  simp only [Bool.not_eq_true, Bool.or_eq_false_iff, Bool.not_eq_false'] at h1
  exact ⟨h1.1, shL_ok h1.2 (hs.2 p hp)⟩⟩
theorem bads_ok {l : List Int} (h : bads l = false) (hl : l.length ≤ 1099511627776) : okL (fun n => okI n = true) l := ⟨hl, fun n hn => by
  have h1 := (List.any_eq_false.1 h) n hn
  simpa using h1⟩
theorem okC_bad {l : List CV} (h : ∀ x ∈ l, okC x) : badC l = false := List.any_eq_false.2 fun x hx => by rw [(h x hx).1]; simp
theorem okR_bad {r : List (List CV)} (h : okR r) : badL r = false := List.any_eq_false.2 fun l hl => by rw [okC_bad (h.2 l hl).2]; simp
theorem okPin_bad {l : List (Int × List (List CV))} (h : ∀ x ∈ l, okPin x) : badN l = false := List.any_eq_false.2 fun p hp => by
  unfold pinB
  rw [(h p hp).1, okR_bad (h p hp).2]; simp
theorem okI_bad {l : List Int} (h : ∀ n ∈ l, okI n = true) : bads l = false := List.any_eq_false.2 fun n hn => by rw [h n hn]; simp
theorem okRq_bad {l : List (Int × List (List CV))} {ms : List Int} (h : okRq (l, ms)) : rqB l ms = false := by
  unfold rqB
  rw [okPin_bad h.1.2, okI_bad h.2.2]; rfl
/-- What is left at the end: nothing. -/
def endP {α : Type} (p : Pr α) (bs : List Int) : Int := endS (restS (upS p (.inr bs)))
theorem endP_back {α : Type} {p : Pr α} {e : α → List Int} {ok : α → Prop} (h : Both p e ok) {bs : List Int} (hb : Bytes bs) (h0 : endP p bs = 0) : ∃ x, ok x ∧ p bs = .inr (x, []) ∧ bs = e x := by
  unfold endP at h0
  show ∃ x, _
  cases hp : p bs with
  | inl k =>
    have : restS (upS p (.inr bs)) = .inl k := by show restS (p bs) = _; rw [hp]; rfl
    rw [this] at h0
    have h0' : k = 0 := h0
    have := h.err hb hp
    omega
  | inr q =>
    obtain ⟨x, r⟩ := q
    have e1 : restS (upS p (.inr bs)) = .inr r := by show restS (p bs) = _; rw [hp]; rfl
    rw [e1] at h0
    have hr : r = [] := by
      by_cases e : r = []
      · exact e
      · have h' : (if r = [] then (0 : Int) else 12) = 0 := h0
        rw [if_neg e] at h'
        cases h'
    subst hr
    obtain ⟨c1, c2⟩ := h.back hb hp
    exact ⟨x, c1, rfl, by rw [List.append_nil] at c2; exact c2⟩
theorem endP_enc {α : Type} {p : Pr α} {e : α → List Int} {ok : α → Prop} (h : Both p e ok) {x : α} (hx : ok x) : endP p (e x) = 0 ∧ p (e x) = .inr (x, []) := by
  have h1 := h.enc hx []
  rw [List.append_nil] at h1
  refine ⟨?_, h1⟩
  unfold endP
  have e1 : restS (upS p (.inr (e x))) = .inr [] := by show restS (p (e x)) = _; rw [h1]; rfl
  rw [e1]; rfl
theorem endP_cut {α : Type} {p : Pr α} {e : α → List Int} {ok : α → Prop} (h : Both p e ok) {x : α} (hx : ok x) {k : Nat} (hk : k < (e x).length) : endP p ((e x).take k) = 13 := by
  unfold endP
  have e1 : restS (upS p (.inr ((e x).take k))) = .inl 13 := by show restS (p _) = _; rw [h.cut hx k hk]; rfl
  rw [e1]; rfl
theorem endP_more {α : Type} {p : Pr α} {e : α → List Int} {ok : α → Prop} (h : Both p e ok) {x : α} (hx : ok x) {r : List Int} (hr : r ≠ []) : endP p (e x ++ r) = 12 := by
  unfold endP
  have e1 : restS (upS p (.inr (e x ++ r))) = .inr r := by show restS (p _) = _; rw [h.enc hx r]; rfl
  rw [e1]
  show (if r = [] then (0 : Int) else 12) = 12
  rw [if_neg hr]
end
end Go.Proofs.Ytmfoammkcokcoaa
