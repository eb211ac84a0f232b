/-
  CONTRACTS of Split of package sum and of the document's own one, over this translation.
-/
import Derived.Test.YtadajkgiijpakaaYOpens
namespace Go.Proofs.Ytadajkgiijpakaa
open Go.RowKit
open ByteP
set_option linter.unusedVariables false

theorem infoText : (Try.prog.info? 26).map (fun i => (i.zero, i.size, i.bytes)) = some (some (.slice none 0 0), 1, 24) := by kernel_rfl

/-- The value v, k texts long, made by the call itself (its block is numbered from base on), holds the slices vals; the j-th reads as PX j, in another block than v's own. -/
def Held (w : World) (S : Option Addr) (base : Nat) (v : Value) (k : Nat) (PX : Nat → List Int) : Prop :=
  ∃ vals : List Value, w.ownsRow base 26 1 v k vals ∧ ∀ j, j < k → ∃ A n c, vals[j]? = some (.slice A n c) ∧ RdY w w.heap.size A n (PX j) ∧ Bytes (PX j) ∧ (n ≤ 9223372036854775807 ∧ n ≤ c) ∧
    Src S A ∧ ∀ b off, A = some ⟨b, off, none⟩ → 0 < n → v.ownBlock ≠ some b

section
variable {w w' : World} {S : Option Addr} {base k : Nat} {v : Value} {PX : Nat → List Int}
theorem Held.nil_ (w : World) (S : Option Addr) (base : Nat) (PX : Nat → List Int) : Held w S base (.slice none 0 0) 0 PX := ⟨[], World.ownsRow_nil _ _ _ _, fun j hj => absurd hj (by omega)⟩
theorem owns_len {vals : List Value} (h : w.ownsRow base 26 1 v k vals) : vals.length = k := by simpa using h.1
theorem Held.block_lt (h : Held w S base v k PX) : ∀ g, v.ownBlock = some g → g < w.heap.size := by
  intro g hg
  obtain ⟨vals, ho, _⟩ := h
  rcases ho.2 with ⟨rfl, _⟩ | ⟨g', cap, cur, rfl, _, hh, _⟩
  · cases hg
  · have : g' = g := by simpa [Value.ownBlock] using hg
    subst this
    rcases Nat.lt_or_ge g' w.heap.size with hlt | hge
    · exact hlt
    · rw [Array.getElem?_eq_none hge] at hh; cases hh
theorem Held.block_ge (h : Held w S base v k PX) : ∀ g, v.ownBlock = some g → base ≤ g := by
  intro g hg
  obtain ⟨vals, ho, _⟩ := h
  rcases ho.2 with ⟨rfl, _⟩ | ⟨g', cap, cur, rfl, hb, _⟩
  · cases hg
  · have : g' = g := by simpa [Value.ownBlock] using hg
    omega
theorem Held.shape (h : Held w S base v k PX) : ∃ A c, v = .slice A k c := by
  obtain ⟨vals, ho, _⟩ := h
  rcases ho.2 with ⟨rfl, rfl⟩ | ⟨g, cap, cur, rfl, _⟩
  · exact ⟨none, 0, rfl⟩
  · exact ⟨_, _, rfl⟩
theorem Held.kept (h : Held w S base v k PX) (hb : Below w.heap.size w w') : Held w' S base v k PX := by
  have hlt := h.block_lt
  obtain ⟨vals, ho, hj⟩ := h
  refine ⟨vals, ⟨ho.1, ?_⟩, fun j hjk => ?_⟩
  · rcases ho.2 with h | ⟨g, cap, cur, hv, hbg, hh, r⟩
    · exact .inl h
    · exact .inr ⟨g, cap, cur, hv, hbg, by rw [hb.block g (hlt g (by rw [hv]; rfl))]; exact hh, r⟩
  · obtain ⟨A, n, c, e, hr, hby, hn, hsr, hne⟩ := hj j hjk
    exact ⟨A, n, c, e, (hr.below hb).more hb.size, hby, hn, hsr, hne⟩
/-- What is appended to. -/
theorem Held.push {vals : List Value} {A : Option Addr} {n c g d : Nat} (hj : ∀ j, j < k → ∃ A n c, vals[j]? = some (.slice A n c) ∧ RdY w w.heap.size A n (PX j) ∧ Bytes (PX j) ∧ (n ≤ 9223372036854775807 ∧ n ≤ c) ∧
      Src S A ∧ ∀ b off, A = some ⟨b, off, none⟩ → 0 < n → v.ownBlock ≠ some b)
    (hl : vals.length = k) (hr : RdY w w.heap.size A n (PX k)) (hby : Bytes (PX k)) (hn : n ≤ 9223372036854775807 ∧ n ≤ c) (hsr : Src S A) (hne : ∀ b off, A = some ⟨b, off, none⟩ → 0 < n → v.ownBlock ≠ some b)
    (hg : w.grownBy w' v.ownBlock) (hat : v.ownBlock = some g ∨ g = w.heap.size) (ho : w'.ownsRow base 26 1 (.slice (some ⟨g, 0, none⟩) (k + 1) d) (k + 1) (vals ++ [.slice A n c])) :
    Held w' S base (.slice (some ⟨g, 0, none⟩) (k + 1) d) (k + 1) PX := by
  have hkeep : ∀ {A : Option Addr} {n : Nat} {xs : List Int}, RdY w w.heap.size A n xs → (∀ b off, A = some ⟨b, off, none⟩ → 0 < n → v.ownBlock ≠ some b) →
      RdY w' w'.heap.size A n xs ∧ ∀ b off, A = some ⟨b, off, none⟩ → 0 < n → (Value.slice (some ⟨g, 0, none⟩) (k + 1) d).ownBlock ≠ some b := by
    intro A n xs h hne
    refine ⟨⟨h.1, fun hn => ?_⟩, fun b off e hn e2 => ?_⟩
    · obtain ⟨b, off, e, hb, hc⟩ := h.2 hn
      refine ⟨b, off, e, Nat.lt_of_lt_of_le hb hg.size, fun j hj => ?_⟩
      rw [← hc j hj]
      exact World.cell?_of_block (hg.block b hb (fun e3 => hne b off e hn e3.symm))
    · obtain ⟨b', off', e', hb', _⟩ := h.2 hn
      rw [e] at e'
      injection e' with e'
      injection e' with e1 e3 e4
      have e5 : g = b := by simpa [Value.ownBlock] using e2
      rcases hat with h1 | h1
      · exact hne b off e hn (by rw [h1, e5])
      · omega
  refine ⟨_, ho, fun j hjk => ?_⟩
  by_cases hlt : j < k
  · obtain ⟨A', n', c', e, hr', hby', hn', hsr', hne'⟩ := hj j hlt
    have := hkeep hr' hne'
    exact ⟨A', n', c', by rw [List.getElem?_append_left (by omega)]; exact e, this.1, hby', hn', hsr', this.2⟩
  · obtain rfl : j = k := by omega
    have := hkeep hr hne
    exact ⟨A, n, c, by rw [List.getElem?_append_right (by omega), hl, Nat.sub_self]; rfl, this.1, hby, hn, hsr, this.2⟩
end

/-- 'append(s, x)', s a list of texts of the call's own: s grows by one. -/
theorem wplH_app {w : World} {ops : Array Oper} {rest : List Oper} {o : Oper} {a : Act} {Q : Exit → Act → World → Prop} (hgd : o.guard = none) (s x : Operand)
    (ho : o.op = .call { callee := .builtin .append, args := #[s, x], argTypes := #[34, 34] })
    (S : Option Addr) (base : Nat) (v : Value) (k : Nat) (PX : Nat → List Int) (hs : a.eval s = v) (hheld : Held w S base v k PX)
    (b : Nat) (A : Option Addr) (n c : Nat) (hx : a.eval x = .slice (some ⟨b, 0, none⟩) 1 1) (hc : w.cell? ⟨b, 0, none⟩ = some (.slice A n c)) (hk : k ≤ 1000000000) (hbase : base ≤ w.heap.size)
    (hr : RdY w w.heap.size A n (PX k)) (hby : Bytes (PX k)) (hn : n ≤ 9223372036854775807 ∧ n ≤ c) (hsr : Src S A) (hne : ∀ b off, A = some ⟨b, off, none⟩ → 0 < n → v.ownBlock ≠ some b)
    (h : ∀ g d w', Held w' S base (.slice (some ⟨g, 0, none⟩) (k + 1) d) (k + 1) PX → base ≤ g → w.grownBy w' v.ownBlock → wpList Try.prog ops Q rest (a.put o.dst (.slice (some ⟨g, 0, none⟩) (k + 1) d)) w') :
    wpList Try.prog ops Q (o :: rest) a w := by
  obtain ⟨i0, hi, hz0, hz1, hz2⟩ := info_parts infoText
  obtain ⟨vals, hown, hj⟩ := hheld
  refine wpList_append_own_at w hgd s x 34 ho base 26 i0 (.slice none 0 0) 1 24 Try.underlying34 hi hz0 hz1 hz2 rfl (by decide) v k _ hs hown ⟨b, 0, none⟩ 1 1 [.slice A n c] hx rfl ?_ ?_ (by unfold maxLen; omega) (by omega) hbase ?_
  · intro j z hj
    match j, hj with
    | 0, hj => simp at hj; subst hj; simpa [Addr.add] using hc
  · intro z hz; simp at hz; subst hz; rfl
  · intro v' w' hown' hg _ hat
    obtain ⟨g, cap, hv, hbg, hlt⟩ := World.ownsRow.form hown' (by omega)
    subst hv
    exact h g cap w' (Held.push hj (owns_len hown) hr hby hn hsr hne hg (by
      rcases hat with h | h
      · exact .inl h.symm
      · right; have : some g = some w.heap.size := h; injection this) hown') hbg hg

/-- Where the k-th frame begins, as long as those before it open. -/
def atN (xs : List Int) : Nat → Nat
  | 0 => 0
  | k + 1 => atN xs k + sizeN (xs.drop (atN xs k))
/-- The k-th frame's payload. -/
def pT (xs : List Int) (k : Nat) : List Int := payT (xs.drop (atN xs k))
/-- k frames open, and behind them none does. -/
def Splits (xs : List Int) (k : Nat) : Prop := (∀ j < k, openN (xs.drop (atN xs j)) = 0) ∧ openN (xs.drop (atN xs k)) ≠ 0
theorem Splits.uniq {xs : List Int} {k m : Nat} (h : Splits xs k) (h2 : Splits xs m) : k = m := by
  rcases Nat.lt_trichotomy k m with h3 | h3 | h3
  · exact absurd (h2.1 k h3) h.2
  · exact h3
  · exact absurd (h.1 m h3) h2.2
theorem open_len {xs : List Int} (h : openN xs = 0) : sizeN xs ≤ xs.length ∧ 8 ≤ sizeN xs := by
  rw [sizeN_yes h]
  unfold openN at h
  split at h
  · cases h
  · split at h
    · cases h
    · split at h
      · cases h
      · omega
theorem open_nil : openN [] ≠ 0 := by
  rw [open13 (by simp)]; omega
theorem atN_le {xs : List Int} : ∀ k, (∀ j < k, openN (xs.drop (atN xs j)) = 0) → atN xs k ≤ xs.length := by
  intro k
  induction k with
  | zero => intro _; exact Nat.zero_le _
  | succ k ih =>
    intro h
    have h1 := ih (fun j hj => h j (by omega))
    have h2 := (open_len (h k (by omega))).1
    rw [List.length_drop] at h2
    show atN xs k + sizeN (xs.drop (atN xs k)) ≤ _
    omega
theorem atN_ge {xs : List Int} : ∀ k, (∀ j < k, openN (xs.drop (atN xs j)) = 0) → 8 * k ≤ atN xs k := by
  intro k
  induction k with
  | zero => intro _; exact Nat.zero_le _
  | succ k ih =>
    intro h
    have h1 := ih (fun j hj => h j (by omega))
    have h2 := (open_len (h k (by omega))).2
    show _ ≤ atN xs k + sizeN (xs.drop (atN xs k))
    omega
theorem pT_bytes {xs : List Int} (h : Bytes xs) (k : Nat) : Bytes (pT xs k) := by
  unfold pT payT
  split
  · exact bytes_take (bytes_drop (bytes_drop h _) _) _
  · exact bytes_nil
theorem RdY.from {w : World} {B n c q : Nat} {A : Option Addr} {xs : List Int} (h : RdY w B A n xs) (hq : q ≤ n) (hc : n ≤ c) : RdY w B (subA A c q) (n - q) (xs.drop q) := by
  have := h.sub (c := c) q (n - q) (by omega) hc
  rwa [List.take_of_length_le (by rw [List.length_drop, h.1]; exact Nat.le_refl _)] at this

set_option maxHeartbeats 3200000 in
theorem refSplit_any {w : World} {B n c : Nat} {A : Option Addr} {xs : List Int} (hx : RdY w B A n xs) (hb : Bytes xs) (hnc : n ≤ c) (hn : n ≤ 1000000000) (hB : B ≤ w.heap.size) :
    Calls Try.prog 37 #[.slice A n c] w fun e w' => ∃ k v, Splits xs k ∧ e = .returned (.tuple #[v, .int .i64 (atN xs k : Nat)]) ∧ Held w' A w.heap.size v k (pT xs) ∧ Below w.heap.size w w' := by
  have HX := Lib.hid hx
  have HBX := Lib.hid hb
  clear hx hb
  go_enter Try.func37, Try.ntmps37
  go_wp2
  go_loopw [4, 5] (fun v i wr => ∃ (k q : Nat) (A' : Option Addr) (c' : Nat), v = .slice A' k c' ∧ i = .int .i64 (q : Int) ∧ q ≤ n ∧ 8 * k ≤ q ∧ Hid (q = atN xs k) ∧ Hid (∀ j < k, openN (xs.drop (atN xs j)) = 0) ∧ Hid (Held wr A w.heap.size (.slice A' k c') k (pT xs)) ∧ Hid (Below w.heap.size w wr))
    (fun _ i _ => n - (intOf i).toNat)
  case atStart => exact ⟨0, 0, none, 0, rfl, rfl, by omega, by omega, Lib.hid rfl, Lib.hid (fun j hj => absurd hj (by omega)), Lib.hid (Held.nil_ _ _ _ _), Lib.hid (Below.refl _ _)⟩
  case round =>
    obtain ⟨k, q, A', c', rfl, rfl, hqn, hkq, HQ, HO, HH, HB⟩ := hrel
    have hsr := HB.out.size
    have HL : Hid (xs.length = n) := Lib.hid HX.out.1
    by_cases hlt : q < n
    · have HXr := Lib.hid (HX.out.below (HB.out.mono hB))
      have hcq : ¬ c = q := by omega
      have HD : Hid (RdY wr B (A.map (fun x => x.add q)) (n - q) (xs.drop q)) := Lib.hid (by have := HXr.out.from hqn hnc; rwa [subA, if_neg hcq] at this)
      have HBD : Hid (Bytes (xs.drop q)) := Lib.hid (bytes_drop HBX.out q)
      have hqc : (q : Int) ≤ (n : Int) := by omega
      by_cases ho : openN (xs.drop q) = 0
      · have hb1 : ((openN (xs.drop q) : Int) != 0) = false := by rw [ho]; rfl
        have HZ := Lib.hid (open_len ho)
        have HO0 := Lib.hid ho
        have HZ2 : Hid (q + sizeN (xs.drop q) ≤ n ∧ 8 ≤ sizeN (xs.drop q)) := Lib.hid (by have := HZ.out; rw [List.length_drop, HL.out] at this; omega)
        clear ho
        obtain ⟨z, hz⟩ : ∃ z, z = sizeN (xs.drop q) := ⟨_, rfl⟩
        have HZE := Lib.hid hz
        have hzn : q + z ≤ n ∧ 8 ≤ z := by rw [hz]; exact HZ2.out
        clear hz
        go_wp2_with fail
        refine (refOpen_any (w := wr) (B := B) (n := n - q) (c := c - q) (xs := xs.drop q) HD.out HBD.out (by omega) (by omega) (Nat.le_trans hB hsr)).mono ?_
        rintro e w2 ⟨A2, c2, rfl, hr2, hbel2, hcap2, hsrc2⟩
        have HSRC : Hid (Src A A2) := Lib.hid (((Src.refl_ A).map_ q).trans_ hsrc2)
        clear hsrc2
        rw [← HZE.out]
        have HR2 := Lib.hid hr2
        have HB2 : Hid (Below w.heap.size w w2) := Lib.hid (HB.out.trans (hbel2.mono hsr))
        have HH2 := Lib.hid (HH.out.kept hbel2)
        have hge := HH.out.block_ge
        have HNE : Hid (∀ b off, A2 = some ⟨b, off, none⟩ → 0 < (payT (xs.drop q)).length → (Value.slice A' k c').ownBlock ≠ some b) := Lib.hid (fun b off e hp e2 => by
          obtain ⟨b', off', e', hb', _⟩ := HR2.out.2 hp
          rw [e] at e'
          injection e' with e'
          injection e' with e3 e4 e5
          have h2 := hge b e2
          omega)
        have hlen : (payT (xs.drop q)).length ≤ 9223372036854775807 := by
          have h1 := payT_length_le (xs.drop q)
          have h2 : (xs.drop q).length = n - q := by rw [List.length_drop, HL.out]
          omega
        have HBP : Hid (Bytes (pT xs k)) := Lib.hid (pT_bytes HBX.out k)
        have HPE : Hid (pT xs k = payT (xs.drop q)) := Lib.hid (by unfold pT; rw [← HQ.out])
        have hs2 := HB2.out.size
        have HH3 : Hid (Held (w2.alloc (.cells #[.slice A2 (payT (xs.drop q)).length c2] 26)) A w.heap.size (.slice A' k c') k (pT xs)) := Lib.hid (HH2.out.kept ((Below.refl _ _).alloc (Nat.le_refl _) _))
        have HR3 : Hid (RdY (w2.alloc (.cells #[.slice A2 (payT (xs.drop q)).length c2] 26)) (w2.alloc (.cells #[.slice A2 (payT (xs.drop q)).length c2] 26)).heap.size A2 (payT (xs.drop q)).length (pT xs k)) := Lib.hid (by
          rw [HPE.out]; exact (HR2.out.alloc (Nat.le_trans hB hs2) _).more (by simp; omega))
        have HB3 : Hid (Below w.heap.size w (w2.alloc (.cells #[.slice A2 (payT (xs.drop q)).length c2] 26))) := Lib.hid (HB2.out.alloc hs2 _)
        clear hr2 hbel2 hge HH2 HR2
        go_wp2_with (at_builtin; refine wplH_app rfl _ _ rfl A w.heap.size _ k (pT xs) rfl HH3.out w2.heap.size A2 (payT (xs.drop q)).length c2 rfl (by simp) (by omega) (by simp; omega) HR3.out HBP.out ⟨hlen, hcap2⟩ HSRC.out HNE.out ?_; intro g5 d5 w5 held5 hg5 hgrow5)
        have HH5 := Lib.hid held5
        have HB5 : Hid (Below w.heap.size w w5) := Lib.hid (HB3.out.grown hgrow5 (by simp; omega) HH3.out.block_ge)
        clear held5 hg5 hgrow5
        go_wp2
        go_roundw
        case rel =>
          refine ⟨k + 1, q + z, _, _, rfl, by go_num, hzn.1, by omega, Lib.hid ?_, Lib.hid (fun j hj => ?_), HH5, HB5⟩
          · rw [HZE.out]
            show _ = atN xs k + sizeN (xs.drop (atN xs k))
            rw [← HQ.out]
          · by_cases hjk : j < k
            · exact HO.out j hjk
            · obtain rfl : j = k := by omega
              rw [← HQ.out]; exact HO0.out
        case measure => simp [intOf]; omega
      · have hb1 : ((openN (xs.drop q) : Int) != 0) = true := by simp [ho]
        have HSP : Hid (Splits xs k) := Lib.hid ⟨HO.out, by rw [← HQ.out]; exact ho⟩
        clear ho
        go_wp2_with fail
        refine (refOpen_any (w := wr) (B := B) (n := n - q) (c := c - q) (xs := xs.drop q) HD.out HBD.out (by omega) (by omega) (Nat.le_trans hB hsr)).mono ?_
        rintro e w2 ⟨A2, c2, rfl, hr2, hbel2, _⟩
        have HB2 : Hid (Below w.heap.size w w2) := Lib.hid (HB.out.trans (hbel2.mono hsr))
        have HH2 := Lib.hid (HH.out.kept hbel2)
        clear hr2 hbel2
        go_wp2
        go_ret2
        exact ⟨k, _, HSP.out, by rw [← HQ.out]; rfl, HH2.out, HB2.out⟩
    · have hqn2 : q = n := by omega
      have HSP : Hid (Splits xs k) := Lib.hid ⟨HO.out, by rw [← HQ.out, hqn2, List.drop_eq_nil_of_le (by rw [HL.out]; exact Nat.le_refl _)]; exact open_nil⟩
      clear hqn2
      go_wp2
      go_ret2
      exact ⟨k, _, HSP.out, by rw [← HQ.out]; rfl, HH.out, HB.out⟩
end Go.Proofs.Ytadajkgiijpakaa
